/- The contract of ballot's voters: the votes' nodes, ascending, each once. -/
import Derived.Test.YtallcmknajigfaaIntSort
import Derived.Test.YtallcmknajigfaaBallotRise
namespace Go.Proofs.Ytallcmknajigfaa
open Go.RowKit

theorem up_unique : ∀ {l m : List Int}, l.Pairwise (· < ·) → m.Pairwise (· < ·) → (∀ z, z ∈ l ↔ z ∈ m) → l = m
  | [], [], _, _, _ => rfl
  | [], y :: m, _, _, h => absurd ((h y).2 (by simp)) (by simp)
  | x :: l, [], _, _, h => absurd ((h x).1 (by simp)) (by simp)
  | x :: l, y :: m, hl, hm, h => by
    have h1 := List.pairwise_cons.1 hl
    have h2 := List.pairwise_cons.1 hm
    have hxy : x = y := by
      rcases List.mem_cons.1 ((h x).1 (by simp)) with e | e
      · exact e
      · rcases List.mem_cons.1 ((h y).2 (by simp)) with e' | e'
        · exact e'.symm
        · have a := h2.1 x e
          have b := h1.1 y e'
          omega
    subst hxy
    rw [up_unique (l := l) (m := m) h1.2 h2.2 fun r => by
      have hr := h r
      constructor
      · intro hl'
        rcases List.mem_cons.1 (hr.1 (by simp [hl'])) with e | e
        · subst e; have := h1.1 r hl'; omega
        · exact e
      · intro hm'
        rcases List.mem_cons.1 (hr.2 (by simp [hm'])) with e | e
        · subst e; have := h2.1 r hm'; omega
        · exact e]
structure VoSt (w : World) (l : List Vt) (i : Nat) (v : Value) (wr : World) : Prop where
  own : wr.ownsRow w.heap.size 3 1 v i (intCells ((l.take i).map Vt.nd))
  low : Below w.heap.size w wr
theorem nds_next {l : List Vt} {i : Nat} {x : Vt} (h : l[i]? = some x) : (l.take (i + 1)).map Vt.nd = (l.take i).map Vt.nd ++ [x.nd] := by
  rw [List.take_add_one, h, List.map_append]
  rfl
/-- What a list of votes tells: their nodes, ascending, each once. -/
structure NdsIs (l : List Vt) (zs : List Int) : Prop where
  up : zs.Pairwise (· < ·)
  mem : ∀ z, z ∈ zs ↔ ∃ x ∈ l, x.nd = z
  most : zs.length ≤ l.length
theorem nds_is (l : List Vt) : NdsIs l (Lib.compact ((l.map Vt.nd).mergeSort fun x y => decide (x ≤ y))) := by
  obtain ⟨h1, h2, h3⟩ := int_once (l.map Vt.nd)
  exact ⟨h1, fun z => by rw [h2, List.mem_map], by simpa using h3⟩
set_option maxHeartbeats 2000000 in
set_option maxRecDepth 100000 in
theorem voters_any {w : World} {B n c : Nat} {A : Option Addr} {l : List Vt} (h : Has w B A (voteCells l)) (hn : l.length = n) (hm : n ≤ 1000000) :
    Calls Try.prog 54 #[.slice A n c] w fun e w' => ∃ v zs, e = .returned v ∧ w'.ownsRow w.heap.size 3 1 v zs.length (intCells zs) ∧ Below w.heap.size w w' ∧ NdsIs l zs := by
  have HA := Lib.hid h.tight
  have HL := Lib.hid hn
  clear h hn
  go_enter Try.func54, Try.ntmps54
  go_wp2_with fail
  go_loopw [3, 8] (fun v x wr => ∃ i : Nat, x = .int .i64 i ∧ i ≤ n ∧ Hid (VoSt w l i v wr)) (fun _ x _ => n - (intOf x).toNat)
  case atStart => exact ⟨0, rfl, Nat.zero_le _, World.ownsRow_nil _ _ _ _, Below.refl _ _⟩
  case round =>
    obtain ⟨i, rfl, hi, HS⟩ := hrel
    by_cases hlt : i < n
    · have hil : i < l.length := by rw [HL.out]; exact hlt
      obtain ⟨ad, rfl, _, d0, d1⟩ := vote_at (HA.out.below HS.out.low (Nat.le_refl _)) hil
      have HX := Lib.hid (show l[i]? = some l[i] from List.getElem?_eq_getElem hil)
      obtain ⟨x, hx⟩ : ∃ x, l[i] = x := ⟨_, rfl⟩
      rw [hx] at d0 d1 HX
      clear hx hil
      obtain ⟨Av, cv, hv, _, _⟩ := own_slice HS.out.own
      subst hv
      have HLow := Lib.hid (HS.out.low.alloc HS.out.low.size (.cells #[.int .i64 x.nd, .int .i64 x.sg] 38))
      have HOwn := Lib.hid (HS.out.own.alloc (.cells #[.int .i64 x.nd, .int .i64 x.sg] 38))
      obtain ⟨i0, hi0, hx0, hx1, hx2⟩ := info_parts info_int
      have HNew := Lib.hid (show ∀ j u, [Value.int .i64 x.nd][j]? = some u → ((wr.alloc (.cells #[.int .i64 x.nd, .int .i64 x.sg] 38)).alloc (.cells #[.int .i64 x.nd] 3)).cell? ((⟨wr.heap.size + 1, 0, none⟩ : Addr).add j) = some u from fun j u hj => by
        obtain ⟨_, he, _, hc⟩ := (Has.fresh (wr.alloc (.cells #[.int .i64 x.nd, .int .i64 x.sg] 38)) #[.int .i64 x.nd] 3) j u hj
        cases he
        have e : (wr.alloc (.cells #[.int .i64 x.nd, .int .i64 x.sg] 38)).heap.size = wr.heap.size + 1 := by simp
        rw [e] at hc
        exact hc)
      have HB3 := Lib.hid (show i + 1 ≤ maxLen by unfold maxLen; omega)
      have HB4 := Lib.hid (show (i + 1) * 8 ≤ 140737488355328 by omega)
      have HB5 := Lib.hid (show w.heap.size ≤ ((wr.alloc (.cells #[.int .i64 x.nd, .int .i64 x.sg] 38)).alloc (.cells #[.int .i64 x.nd] 3)).heap.size by have := HLow.out.size; simp at this ⊢; omega)
      have HR := Lib.hid (nds_next HX.out)
      clear HS
      go_wp2_with (at_builtin; refine wpList_append_own _ rfl (.tmp 12) (.tmp 15) 27 rfl w.heap.size 3 i0 _ 1 8 Try.underlying27 hi0 hx0 hx1 hx2 rfl (by decide) _ _ _ rfl (HOwn.out.alloc _) ⟨wr.heap.size + 1, 0, none⟩ 1 1 [.int .i64 x.nd] rfl rfl HNew.out (intCells_one [x.nd]) HB3.out HB4.out HB5.out ?_)
      intro v2 w2 ho2 hg2 _
      have HO2 := Lib.hid (show VoSt w l (i + 1) v2 w2 from ⟨by rw [HR.out, intCells_app, List.map_take]; exact ho2, (HLow.out.alloc HLow.out.size _).grown hg2 HB5.out (fun k hk => (HOwn.out.lt k hk).1)⟩)
      clear ho2 hg2
      go_wp2_with fail
      go_roundw
      case rel => exact ⟨i + 1, by go_num, by omega, HO2.out⟩
      case measure => simp [intOf]; omega
    · obtain rfl : i = n := by omega
      have HT := Lib.hid (show l.take i = l from List.take_of_length_le (by rw [HL.out]; exact Nat.le_refl _))
      obtain ⟨Av, cv, hv, hnc, _⟩ := own_slice HS.out.own
      subst hv
      have ho := HS.out.own
      rw [HT.out] at ho
      have HB := Lib.hid HS.out.low
      have HLz := Lib.hid (show (l.map Vt.nd).length = i by rw [List.length_map, HL.out])
      have HQ := Lib.hid (nds_is l)
      by_cases h0 : i = 0
      · subst h0
        have HZ := Lib.hid (show l.map Vt.nd = [] from List.eq_nil_of_length_eq_zero HLz.out)
        have HO := Lib.hid ho
        rw [HZ.out] at HQ HO
        have HQ2 := Lib.hid (show NdsIs l [] from by simpa [Lib.compact, Lib.compactUpTo] using HQ.out)
        have KS := Lib.hid (fun w => AnyM.slices_Sort_int_none sortInt Av cv w)
        have KC := Lib.hid (fun w => Any.slices_Compact_int_empty compInt Av cv w)
        clear ho HS
        go_wp2_with fail
        refine (KS.out wr).mono ?_
        rintro e w' ⟨rfl, rfl⟩
        go_wp2_with fail
        refine (KC.out _).mono ?_
        rintro e w' ⟨rfl, rfl⟩
        go_wp2_with fail
        go_ret
        exact ⟨_, [], rfl, HO.out, HB.out, HQ2.out⟩
      · have hA : ∃ g, Av = some ⟨g, 0, none⟩ := by
          rcases ho.2 with ⟨_, h⟩ | ⟨g, cap, cur, hv, _⟩
          · omega
          · injection hv with h
            exact ⟨g, h⟩
        obtain ⟨g, rfl⟩ := hA
        obtain ⟨zs, hzs⟩ : ∃ zs, l.map Vt.nd = zs := ⟨_, rfl⟩
        rw [hzs] at ho HLz HQ
        have hlt := (ho.lt g rfl).2
        have KS := Lib.hid (AnyM.slices_Sort_int sortInt g 0 cv zs wr (holds_int ho HLz.out) hlt (by have := HLz.out; omega))
        rw [HLz.out] at KS
        have HO := Lib.hid ho
        clear ho HS hzs hlt
        go_wp2_with fail
        refine KS.out.mono ?_
        rintro e w2 ⟨rfl, m, os, hw2⟩
        obtain ⟨ho2, hb2⟩ := own_ints (m := m) (os := os) (d' := zs.mergeSort fun x y => decide (x ≤ y)) HO.out HLz.out (by rw [List.length_mergeSort]; exact HLz.out)
        rw [← hw2] at ho2 hb2
        obtain ⟨ys, hys⟩ : ∃ ys, zs.mergeSort (fun x y => decide (x ≤ y)) = ys := ⟨_, rfl⟩
        have hyl : ys.length = i := by rw [← hys, List.length_mergeSort]; exact HLz.out
        rw [hys] at ho2 HQ
        have KC := Lib.hid (Any.slices_Compact_int compInt g 0 cv ys w2 (holds_int ho2 hyl) (by omega) (by omega))
        rw [hyl] at KC
        have HO2 := Lib.hid ho2
        have HB2 := Lib.hid (HB.out.trans hb2)
        have HYl := Lib.hid hyl
        clear hw2 ho2 hb2 hys hyl KS
        go_wp2_with fail
        refine KC.out.mono ?_
        rintro e w3 ⟨rfl, q, hw3⟩
        obtain ⟨us, hus⟩ : ∃ us, Lib.compact ys = us := ⟨_, rfl⟩
        rw [hus] at HQ hw3 ⊢
        have hul : us.length ≤ i := by have h1 := HQ.out.most; have h2 := HL.out; omega
        obtain ⟨ho3, hb3⟩ := own_ints (m := q) (os := #[]) (d' := us ++ List.replicate (i - us.length) 0) HO2.out HYl.out (by simp; omega)
        rw [Sort.grow_empty, ← hw3] at ho3 hb3
        have ho4 := own_first ho3 hul
        rw [Nat.mul_one, ← List.map_take, List.take_left' rfl] at ho4
        have HO4 := Lib.hid ho4
        have HB3 := Lib.hid (HB2.out.trans hb3)
        clear ho3 ho4 hb3 hw3 hus
        go_wp2_with fail
        go_ret
        exact ⟨_, us, rfl, HO4.out, HB3.out, HQ.out⟩
end Go.Proofs.Ytallcmknajigfaa
