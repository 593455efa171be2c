/- The contract of ballot's Common. -/
import Derived.Test.YtallcmknajigfaaBallotVot
namespace Go.Proofs.Ytallcmknajigfaa
open Go.RowKit

theorem common_is {a b : List Vt} {xs ys : List Int} (hx : NdsIs a xs) (hy : NdsIs b ys) (ha : ∀ v ∈ a, 0 ≤ v.nd ∧ v.nd < 13) : xs.filter (fun z => decide (z ∈ ys)) = commonS a b := by
  refine up_unique (hx.up.filter _) ?_ fun z => ?_
  · unfold commonS comK
    rw [List.pairwise_map]
    exact ((List.pairwise_lt_range (n := 13)).filter _).imp (fun h => by omega)
  · rw [List.mem_filter, decide_eq_true_eq, hx.mem, hy.mem]
    unfold commonS comK
    rw [List.mem_map]
    constructor
    · rintro ⟨⟨v, hv, rfl⟩, u, hu, e⟩
      obtain ⟨h1, h2⟩ := ha v hv
      refine ⟨v.nd.toNat, List.mem_filter.2 ⟨List.mem_range.2 (by omega), ?_⟩, by omega⟩
      simp only [Bool.and_eq_true]
      exact ⟨inL_iff.2 ⟨v, hv, by omega⟩, inL_iff.2 ⟨u, hu, by omega⟩⟩
    · rintro ⟨k, hk, rfl⟩
      obtain ⟨_, h2⟩ := List.mem_filter.1 hk
      simp only [Bool.and_eq_true] at h2
      exact ⟨inL_iff.1 h2.1, inL_iff.1 h2.2⟩
theorem find_any {w : World} {b c : Nat} {A : Option Addr} {ys : List Int} (ho : w.ownsRow b 3 1 (.slice A ys.length c) ys.length (intCells ys)) (hup : ys.Pairwise (· < ·)) (hl : ys.length ≤ 1000000) (x : Int) :
    Calls Try.prog 55 #[.slice A ys.length c, .int .i64 x] w fun e w' => ∃ p : Int, e = .returned (.tuple #[.int .i64 p, .bool (decide (x ∈ ys))]) ∧ ∃ q, w' = w.drewN q := by
  by_cases h0 : ys.length = 0
  · have hz : ys = [] := List.eq_nil_of_length_eq_zero h0
    subst hz
    exact (Any.slices_BinarySearch_int_empty findInt A c x w).mono fun _ _ ⟨he, hw⟩ => ⟨0, by rw [he]; simp, 0, by rw [hw]; rfl⟩
  · have hA : ∃ g, A = some ⟨g, 0, none⟩ := by
      rcases ho.2 with ⟨_, h⟩ | ⟨g, cap, cur, hv, _⟩
      · omega
      · injection hv with h
        exact ⟨g, h⟩
    obtain ⟨g, rfl⟩ := hA
    have hw := has_rows ho
    refine (Any.slices_BinarySearch_int findInt g 0 ys.length c ys x w (Nat.le_refl _) (by omega) (fun j hj => ?_) ?_).mono ?_
    · have hu : (intCells ys)[j]? = some (.int .i64 (ys.getD j 0)) := by
        simp [intCells, hj]
      obtain ⟨ad, he, _, hc⟩ := hw j _ hu
      cases he
      rw [Addr.add_mid] at hc
      exact hc
    · rw [List.take_of_length_le (Nat.le_refl _)]
      exact hup.imp fun h => by omega
    · rintro e w' ⟨rfl, q, rfl⟩
      rw [List.take_of_length_le (Nat.le_refl _)]
      exact ⟨_, by rw [List.contains_eq_mem], q, rfl⟩
theorem own_lower {w : World} {b b' n : Nat} {e : TypeId} {size : Nat} {v : Value} {xs : List Value} (h : w.ownsRow b e size v n xs) (hb : b' ≤ b) : w.ownsRow b' e size v n xs := by
  refine ⟨h.1, ?_⟩
  rcases h.2 with h2 | ⟨g, cap, cur, hv, hg, r⟩
  · exact Or.inl h2
  · exact Or.inr ⟨g, cap, cur, hv, Nat.le_trans hb hg, r⟩
structure CmSt (w : World) (xs ys : List Int) (i : Nat) (v : Value) (wr : World) : Prop where
  own : wr.ownsRow w.heap.size 3 1 v ((xs.take i).filter (fun z => decide (z ∈ ys))).length (intCells ((xs.take i).filter (fun z => decide (z ∈ ys))))
  low : Below w.heap.size w wr
theorem cm_next {xs ys : List Int} {i : Nat} {z : Int} (h : xs[i]? = some z) : (xs.take (i + 1)).filter (fun z => decide (z ∈ ys)) = (xs.take i).filter (fun z => decide (z ∈ ys)) ++ (if z ∈ ys then [z] else []) := by
  rw [List.take_add_one, h, List.filter_append]
  by_cases hz : z ∈ ys <;> simp [hz]
theorem cm_len (xs ys : List Int) (i : Nat) : ((xs.take i).filter (fun z => decide (z ∈ ys))).length ≤ i := by
  have := List.length_filter_le (fun z => decide (z ∈ ys)) (xs.take i)
  rw [List.length_take] at this
  omega
set_option maxHeartbeats 2000000 in
set_option maxRecDepth 100000 in
theorem common_any {w : World} {B n c B2 n2 c2 : Nat} {A A2 : Option Addr} {a b : List Vt} (ha : Has w B A (voteCells a)) (hn : a.length = n) (hm : n ≤ 1000000) (hb : Has w B2 A2 (voteCells b)) (hn2 : b.length = n2) (hm2 : n2 ≤ 1000000) (hra : ∀ v ∈ a, 0 ≤ v.nd ∧ v.nd < 13) :
    Calls Try.prog 34 #[.slice A n c, .slice A2 n2 c2] w fun e w' => ∃ v, e = .returned v ∧ w'.ownsRow w.heap.size 3 1 v (commonS a b).length (intCells (commonS a b)) ∧ Below w.heap.size w w' := by
  have KB := Lib.hid (voters_any (c := c2) hb hn2 hm2)
  have KA := Lib.hid (fun (w2 : World) (h2 : Below w.heap.size w w2) => voters_any (c := c) (ha.tight.below h2 (Nat.le_refl _)) hn hm)
  have HR := Lib.hid (fun xs ys (hx : NdsIs a xs) (hy : NdsIs b ys) => common_is hx hy hra)
  have HLa := Lib.hid hn
  have HLb := Lib.hid hn2
  clear ha hb hra hn hn2
  go_enter Try.func34, Try.ntmps34
  go_wp2_with fail
  refine KB.out.mono ?_
  rintro e w2 ⟨v, ys, rfl, hoy, hb2, hys⟩
  obtain ⟨Ay, cy, hv, _, _⟩ := own_slice hoy
  subst hv
  have HB2 := Lib.hid hb2
  have HOy := Lib.hid hoy
  have HYs := Lib.hid hys
  clear hoy hb2 hys
  go_wp2_with fail
  refine (KA.out w2 HB2.out).mono ?_
  rintro e w3 ⟨v, xs, rfl, hox, hb3, hxs⟩
  obtain ⟨Ax, cx, hv, _, _⟩ := own_slice hox
  subst hv
  have HB3 := Lib.hid (HB2.out.trans (hb3.mono HB2.out.size))
  have HOy3 := Lib.hid (below_own HOy.out hb3 (Nat.le_refl _))
  have HX3 := Lib.hid (has_rows hox)
  have HE := Lib.hid (HR.out xs ys hxs HYs.out)
  have hxl : xs.length ≤ 1000000 := by have h1 := hxs.most; have h2 := HLa.out; omega
  have hyl : ys.length ≤ 1000000 := by have h1 := HYs.out.most; have h2 := HLb.out; omega
  have HUp := Lib.hid HYs.out.up
  have HSz := Lib.hid (show w.heap.size ≤ w3.heap.size from HB3.out.size)
  have HC0 := Lib.hid (show CmSt w3 xs ys 0 (.slice none 0 0) w3 from ⟨World.ownsRow_nil _ _ _ _, Below.refl _ _⟩)
  clear hox hb3 hxs KA KB
  go_wp2_with fail
  go_loopw [5, 16] (fun v x wr => ∃ i : Nat, x = .int .i64 i ∧ i ≤ xs.length ∧ Hid (CmSt w3 xs ys i v wr)) (fun _ x _ => xs.length - (intOf x).toNat)
  case atStart => exact ⟨0, rfl, Nat.zero_le _, HC0.out⟩
  case round =>
    obtain ⟨i, rfl, hi, HS⟩ := hrel
    have HLw := Lib.hid HS.out.low
    by_cases hlt : i < xs.length
    · have HX := Lib.hid (show xs[i]? = some xs[i] from List.getElem?_eq_getElem hlt)
      obtain ⟨z, hz⟩ : ∃ z, xs[i] = z := ⟨_, rfl⟩
      rw [hz] at HX
      obtain ⟨ad, rfl, _, c0⟩ := (HX3.out.below HLw.out (Nat.le_refl _)) i (.int .i64 z) (by simp [intCells, HX.out])
      have HF := Lib.hid (find_any (below_own HOy3.out HLw.out (Nat.le_refl _)) HUp.out hyl z)
      have HNx := Lib.hid (cm_next (ys := ys) HX.out)
      have HLn := Lib.hid (cm_len xs ys i)
      clear hz
      by_cases hm : z ∈ ys
      · rw [if_pos hm] at HNx
        rw [decide_eq_true hm] at HF
        clear hm
        obtain ⟨Av, cv, hv, _, _⟩ := own_slice HS.out.own
        subst hv
        go_wp2_with fail
        refine HF.out.mono ?_
        rintro e w' ⟨p, rfl, m, rfl⟩
        obtain ⟨i0, hi0, hx0, hx1, hx2⟩ := info_parts info_int
        obtain ⟨fs, hfs⟩ : ∃ fs, (xs.take i).filter (fun z => decide (z ∈ ys)) = fs := ⟨_, rfl⟩
        have hown : (wr.drewN m).ownsRow w3.heap.size 3 1 (.slice Av fs.length cv) fs.length (intCells fs) := by rw [← hfs]; exact HS.out.own
        rw [hfs] at HNx HLn ⊢
        clear hfs
        have HLow := Lib.hid (show Below w3.heap.size w3 (wr.drewN m) from HS.out.low.trans ⟨rfl, rfl, rfl, Nat.le_refl _, fun _ _ => rfl⟩)
        have HNew := Lib.hid (show ∀ j u, [Value.int .i64 z][j]? = some u → ((wr.drewN m).alloc (.cells #[.int .i64 z] 3)).cell? ((⟨(wr.drewN m).heap.size, 0, none⟩ : Addr).add j) = some u from fun j u hj => by
          obtain ⟨_, he, _, hc⟩ := (Has.fresh (wr.drewN m) #[.int .i64 z] 3) j u hj
          cases he
          exact hc)
        have HB3' := Lib.hid (show fs.length + 1 ≤ maxLen by have := HLn.out; unfold maxLen; omega)
        have HB4' := Lib.hid (show (fs.length + 1) * 8 ≤ 140737488355328 by have := HLn.out; omega)
        have HB5' := Lib.hid (show w3.heap.size ≤ ((wr.drewN m).alloc (.cells #[.int .i64 z] 3)).heap.size by have := HLow.out.size; simp at this ⊢; omega)
        clear HS HLw
        go_wp2_with (at_builtin; refine wpList_append_own _ rfl (.tmp 27) (.tmp 29) 27 rfl w3.heap.size 3 i0 _ 1 8 Try.underlying27 hi0 hx0 hx1 hx2 rfl (by decide) _ _ _ rfl (hown.alloc _) ⟨(wr.drewN m).heap.size, 0, none⟩ 1 1 [.int .i64 z] rfl rfl HNew.out (intCells_one [z]) HB3'.out HB4'.out HB5'.out ?_)
        intro v2 w2' ho2 hg2 _
        have HO2 := Lib.hid (show CmSt w3 xs ys (i + 1) v2 w2' from ⟨by rw [HNx.out, List.length_append, intCells_app]; exact ho2, (HLow.out.alloc HLow.out.size _).grown hg2 HB5'.out (fun k hk => (hown.lt k hk).1)⟩)
        clear ho2 hg2 hown
        go_wp2_with fail
        go_roundw
        case rel => exact ⟨i + 1, by go_num, by omega, HO2.out⟩
        case measure => simp [intOf]; omega
      · rw [if_neg hm, List.append_nil] at HNx
        rw [decide_eq_false hm] at HF
        clear hm
        have HO2 := Lib.hid (fun v m (h : CmSt w3 xs ys i v wr) => show CmSt w3 xs ys (i + 1) v (wr.drewN m) from ⟨by rw [HNx.out]; exact h.own, h.low.trans ⟨rfl, rfl, rfl, Nat.le_refl _, fun _ _ => rfl⟩⟩)
        go_wp2_with fail
        refine HF.out.mono ?_
        rintro e w' ⟨p, rfl, m, rfl⟩
        have HO3 := Lib.hid (HO2.out _ m HS.out)
        go_wp2_with fail
        go_roundw
        case rel => exact ⟨i + 1, by go_num, by omega, HO3.out⟩
        case measure => simp [intOf]; omega
    · obtain rfl : i = xs.length := by omega
      have HT := Lib.hid (show xs.take xs.length = xs from List.take_of_length_le (Nat.le_refl _))
      go_wp2_with fail
      go_ret
      have ho := HS.out.own
      rw [HT.out, HE.out] at ho
      exact ⟨_, rfl, own_lower ho HSz.out, HB3.out.trans (HS.out.low.mono HSz.out)⟩
theorem rowLaws : RowLaws := ⟨rising_any, fun h1 h2 h3 h4 h5 h6 h7 _ => common_any h1 h2 h3 h4 h5 h6 h7⟩
end Go.Proofs.Ytallcmknajigfaa
