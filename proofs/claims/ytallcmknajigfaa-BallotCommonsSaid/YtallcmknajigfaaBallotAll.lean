/- The contract of Set's All. -/
import Derived.Test.YtallcmknajigfaaSets4Walk
namespace Go.Proofs.Ytallcmknajigfaa
open Go.RowKit

theorem info_int : (Try.prog.info? 3).map (fun i => (i.zero, i.size, i.bytes)) = some (some (.int .i64 0), 1, 8) := by kernel_rfl
/-- The marked ones below q. -/
def rk (bs : List Bool) (q : Nat) : List Int := List.map (fun k : Nat => (k : Int)) (ranks bs q)
theorem rk_all (bs : List Bool) : rk bs 13 = allS bs := rfl
theorem ranks_next (bs : List Bool) (q : Nat) : ranks bs (q + 1) = ranks bs q ++ (if marked bs (q : Int) then [q] else []) := by
  unfold ranks
  rw [List.range_succ, List.filter_append]
  cases h : marked bs (q : Int) <;> simp [h]
theorem rk_yes {bs : List Bool} {q : Nat} (h : marked bs (q : Int) = true) : rk bs (q + 1) = rk bs q ++ [(q : Int)] := by
  unfold rk; rw [ranks_next, h]; simp
theorem rk_no {bs : List Bool} {q : Nat} (h : marked bs (q : Int) = false) : rk bs (q + 1) = rk bs q := by
  unfold rk; rw [ranks_next, h]; simp
theorem rk_len (bs : List Bool) (q : Nat) : (rk bs q).length ≤ q := by
  unfold rk ranks
  rw [List.length_map]
  have := List.length_filter_le (fun k : Nat => marked bs (k : Int)) (List.range q)
  rw [List.length_range] at this
  exact this
theorem intCells_app (l m : List Int) : intCells (l ++ m) = intCells l ++ intCells m := by simp [intCells]
theorem intCells_one (l : List Int) : ∀ u ∈ intCells l, u.oneCell' = true := i64_one l
structure AllSt (w : World) (bs : List Bool) (q : Nat) (v : Value) (wr : World) : Prop where
  own : wr.ownsRow w.heap.size 3 1 v (rk bs q).length (intCells (rk bs q))
  low : Below w.heap.size w wr

set_option maxHeartbeats 2000000 in
theorem all_any {w : World} {g : Nat} {bs : List Bool} (h : SetIs w g bs) : Calls Try.prog 21 #[.pointer (some ⟨g, 0, none⟩)] w fun e w' => ∃ v, e = .returned v ∧ w'.ownsRow w.heap.size 3 1 v (allS bs).length (intCells (allS bs)) ∧ Below w.heap.size w w' := by
  have HS := Lib.hid h
  clear h
  go_enter Try.func21, Try.ntmps21
  go_wp2_with fail
  go_loopw [3, 5] (fun v x wr => ∃ q : Nat, x = .int .i64 q ∧ q ≤ 13 ∧ Hid (AllSt w bs q v wr)) (fun _ x _ => 13 - (intOf x).toNat)
  case atStart => exact ⟨0, rfl, by omega, World.ownsRow_nil _ _ _ _, Below.refl _ _⟩
  case round =>
    obtain ⟨q, rfl, hq, HO⟩ := hrel
    by_cases hqn : q < 13
    · have HH := Lib.hid (has_any (HS.out.below HO.out.low) (q : Int))
      cases hb : marked bs (q : Int)
      · rw [hb] at HH
        have HO2 := Lib.hid (fun m => show AllSt w bs (q + 1) _ (wr.drewN m) from ⟨by rw [rk_no hb]; exact HO.out.own, HO.out.low.trans ⟨rfl, rfl, rfl, Nat.le_refl _, fun _ _ => rfl⟩⟩)
        clear hb
        go_wp2_with fail
        refine HH.out.mono ?_
        rintro e w' ⟨rfl, m, rfl⟩
        go_wp2_with fail
        go_roundw
        case rel => exact ⟨q + 1, by go_num, by omega, HO2.out m⟩
        case measure => simp [intOf]; omega
      · rw [hb] at HH
        have HR := Lib.hid (rk_yes hb)
        have HL := Lib.hid (rk_len bs q)
        clear hb
        obtain ⟨Av, cv, hv, _, _⟩ := own_slice HO.out.own
        subst hv
        go_wp2_with fail
        refine HH.out.mono ?_
        rintro e w' ⟨rfl, m, rfl⟩
        obtain ⟨i0, hi0, hx0, hx1, hx2⟩ := info_parts info_int
        have hown : (wr.drewN m).ownsRow w.heap.size 3 1 _ (rk bs q).length (intCells (rk bs q)) := HO.out.own
        have HLow := Lib.hid (show Below w.heap.size w (wr.drewN m) from HO.out.low.trans ⟨rfl, rfl, rfl, Nat.le_refl _, fun _ _ => rfl⟩)
        have HNew := Lib.hid (show ∀ j u, [Value.int .i64 q][j]? = some u → ((wr.drewN m).alloc (.cells #[.int .i64 q] 3)).cell? ((⟨(wr.drewN m).heap.size, 0, none⟩ : Addr).add j) = some u from fun j u hj => by
          obtain ⟨_, he, _, hc⟩ := (Has.fresh (wr.drewN m) #[.int .i64 q] 3) j u hj
          cases he
          exact hc)
        have HB3 := Lib.hid (show (rk bs q).length + 1 ≤ maxLen by have := HL.out; unfold maxLen; omega)
        have HB4 := Lib.hid (show ((rk bs q).length + 1) * 8 ≤ 140737488355328 by have := HL.out; omega)
        have HB5 := Lib.hid (show w.heap.size ≤ ((wr.drewN m).alloc (.cells #[.int .i64 q] 3)).heap.size by have := HLow.out.size; simp at this ⊢; omega)
        clear HO
        go_wp2_with (at_builtin; refine wpList_append_own _ rfl (.tmp 11) (.tmp 13) 27 rfl w.heap.size 3 i0 _ 1 8 Try.underlying27 hi0 hx0 hx1 hx2 rfl (by decide) _ _ _ rfl (hown.alloc _) ⟨(wr.drewN m).heap.size, 0, none⟩ 1 1 [.int .i64 q] rfl rfl HNew.out (intCells_one [(q : Int)]) HB3.out HB4.out HB5.out ?_)
        intro v2 w2 ho2 hg2 _
        have HO2 := Lib.hid (show AllSt w bs (q + 1) v2 w2 from ⟨by rw [HR.out, List.length_append, intCells_app]; exact ho2, (HLow.out.alloc HLow.out.size _).grown hg2 HB5.out (fun k hk => (hown.lt k hk).1)⟩)
        clear ho2 hg2 hown
        go_wp2_with fail
        go_roundw
        case rel => exact ⟨q + 1, by go_num, by omega, HO2.out⟩
        case measure => simp [intOf]; omega
    · obtain rfl : q = 13 := by omega
      have HE := Lib.hid (rk_all bs)
      go_wp2_with fail
      go_ret
      exact ⟨_, rfl, by rw [← HE.out]; exact HO.out.own, HO.out.low⟩
theorem setLaws : SetLaws := ⟨put_any, has_any, len_any, all_any⟩
end Go.Proofs.Ytallcmknajigfaa
