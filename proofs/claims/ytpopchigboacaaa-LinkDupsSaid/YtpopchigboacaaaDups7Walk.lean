/- The walk of LinkDups. -/
import Derived.Test.YtpopchigboacaaaMoves7Walk
namespace Go.Proofs.Ytpopchigboacaaa
open Go.RowKit Go.Sort

theorem cut_get? {α : Type} {L : List α} {k j : Nat} (hk : k ≤ j) (hl : j < L.length) : (cutL L k)[j]? = L[j + 1]? := by
  unfold cutL
  have h1 : (L.take k).length = k := by simp; omega
  rw [List.getElem?_append_right (by omega), List.getElem?_drop, h1]
  congr 1
  omega
set_option maxHeartbeats 2000000 in
set_option maxRecDepth 100000 in
theorem linkDups_walk (a0 a1 : Int) (w : World) (w0 : (Lit.int .i64 a0).wf = true) (w1 : (Lit.int .i64 a1).wf = true) :
    Calls Try.prog 4 #[.int .i64 a0, .int .i64 a1] w fun e w' => e = .returned (.bool true) ∧ Below w.heap.size w w' := by
  have HW0 := Lib.hid (fun w => within_any a0 20 (by omega) (by omega) (wf_i64 w0).1 (wf_i64 w0).2 w)
  obtain ⟨m, hm⟩ : ∃ m : Nat, a0 % 20 = m := ⟨(a0 % 20).toNat, by omega⟩
  have hm9 : m < 20 := by omega
  rw [hm] at HW0
  obtain ⟨n, hn⟩ : ∃ n : Nat, 1 + m = n := ⟨_, rfl⟩
  have HNe := Lib.hid (show (1 : Int) + (m : Int) = (n : Int) by omega)
  have hn0 : 1 ≤ n := by omega
  have hn1 : n ≤ 20 := by omega
  have HW1 := Lib.hid (fun w => within_any a1 n (by omega) (by omega) (wf_i64 w1).1 (wf_i64 w1).2 w)
  obtain ⟨k, hk⟩ : ∃ k : Nat, a1 % (n : Int) = k := ⟨(a1 % (n : Int)).toNat, by have := Int.emod_nonneg a1 (show (n : Int) ≠ 0 by omega); omega⟩
  have hkn : k < n := by have := Int.emod_lt_of_pos a1 (show 0 < (n : Int) by omega); omega
  rw [hk] at HW1
  have HF := Lib.hid (fun w => filled_any (n := n) (room := 21) (by omega) (by omega) (by omega) w)
  have HKF := Lib.hid (show k < (fillL n).length by rw [fillL_len]; exact hkn)
  have hw1 : (1 : Int) + (m : Int) ≤ 1000 := by omega
  clear hm hn hk w0 w1
  go_enter Try.func4, Try.ntmps4
  go_wp2_with fail
  refine (HW0.out _).mono ?_
  rintro e wa ⟨rfl, rfl⟩
  go_wp2_with fail
  rw [HNe.out]
  refine (HW1.out _).mono ?_
  rintro e wa ⟨rfl, rfl⟩
  clear hw1
  go_wp2_with fail
  obtain ⟨qb, hqb⟩ : ∃ qb, w.heap.size = qb := ⟨_, rfl⟩
  have HQB := Lib.hid hqb
  refine (HF.out w).mono ?_
  rintro e wx ⟨rfl, hq, hb⟩
  rw [hqb] at hq
  rw [hqb]
  obtain ⟨L1, hL1⟩ : ∃ L1, fillL n ++ [(fillL n)[k]'HKF.out] = L1 := ⟨_, rfl⟩
  have HM := Lib.hid (qdup_in hq HKF.out (by rw [fillL_len]; omega))
  have hl1 : L1.length = n + 1 := by rw [← hL1]; simp [fillL_len]
  have hg1 : ∀ h : n < L1.length, L1[n] = [(k : Int)] := by
    subst hL1; intro h
    rw [List.getElem_append_right (by rw [fillL_len]; omega)]
    simp [fillL_get]
  have hg2 : ∀ h : k < L1.length, L1[k] = [(k : Int)] := by
    subst hL1; intro h
    rw [List.getElem_append_left (by rw [fillL_len]; omega), fillL_get]
  have hg3 : ∀ h : n - 1 < (cutL L1 k).length, (cutL L1 k)[n - 1] = [(k : Int)] := by
    intro h
    have h1 := cut_get? (L := L1) (k := k) (j := n - 1) (by omega) (by omega)
    rw [show n - 1 + 1 = n by omega, List.getElem?_eq_getElem h, List.getElem?_eq_getElem (by omega), hg1] at h1
    exact Option.some.inj h1
  rw [hL1] at HM
  have HL1 := Lib.hid hl1
  have HG1 := Lib.hid hg1
  have HG2 := Lib.hid hg2
  have HG3 := Lib.hid hg3
  have HB := Lib.hid (show Below qb w wx from hqb ▸ hb)
  have hu : IntKind.u8.wrap (k : Int) = k := by rw [IntKind.wrap_u8]; omega
  have hx0 : qb ≤ wx.heap.size := by rw [← hqb]; exact hb.size
  have HX0 := Lib.hid hx0
  clear hl1 hg1 hg2 hg3 hL1 hq hb hqb hx0
  go_wp2_with fail
  refine HM.out.mono ?_
  rintro e w2 ⟨rfl, hq2', ht2⟩
  have hq2 := hq2'.mono (R' := fun k => qb ≤ k) (fun j _ hj => hj.elim id (fun h => Nat.le_trans HX0.out h))
  have HB2 := Lib.hid (show Below qb w w2 from HB.out.trans (ht2.below HX0.out (fun j hj hz => by have := hz.1; omega)))
  have HO1 := Lib.hid (qdup_out hq2 (k := (n : Int) + 1) (Or.inl (by simp [hasB, HL1.out])))
  have HQ2 := Lib.hid hq2
  clear hq2 hq2' ht2
  go_wp2_with fail
  refine HO1.out.mono ?_
  rintro e w3 ⟨rfl, m3, rfl⟩
  have HO2 := Lib.hid (qdup_out (HQ2.out.drewN m3) (k := -1) (Or.inl (by simp [hasB])))
  go_wp2_with fail
  refine HO2.out.mono ?_
  rintro e w3 ⟨rfl, m4, rfl⟩
  have hq3 := HQ2.out.drewN (m3 + m4)
  have hb3 := below_drewN HB2.out (m3 + m4)
  rw [World.drewN_drewN]
  obtain ⟨w3, hw3⟩ : ∃ w3, w2.drewN (m3 + m4) = w3 := ⟨_, rfl⟩
  rw [hw3] at hq3 hb3 ⊢
  have HQ3 := Lib.hid hq3
  have HB3 := Lib.hid hb3
  have HP := Lib.hid (show Calls Try.prog 11 #[.pointer (some ⟨qb, 0, none⟩), .int .i64 n] w3 fun e w' => ∃ c, e = .returned (.tuple #[.slice (some ⟨w3.heap.size, 0, none⟩) 1 c, .bool true]) ∧ Bytes w' w3.heap.size [(k : Int)] ∧ Below w3.heap.size w3 w' ∧ w3.heap.size < w'.heap.size from by
    have h := qpeek_in hq3 (k := n) (by rw [HL1.out]; omega)
    rw [HG1.out] at h
    exact h)
  clear hq3 hb3 hw3
  go_wp2_with fail
  refine HP.out.mono ?_
  rintro e w4 ⟨c4, rfl, hy4, hb4, hs4⟩
  obtain ⟨g1, hg1⟩ : ∃ g1, w3.heap.size = g1 := ⟨_, rfl⟩
  rw [hg1] at hy4 ⊢
  have hq4 := HQ3.out.below hb4
  have h3s : qb ≤ w3.heap.size := by have := HQB.out; have := HB3.out.size; omega
  have hB4 : Below qb w w4 := HB3.out.trans (hb4.mono h3s)
  have HTk := Lib.hid (show Calls Try.prog 17 #[.pointer (some ⟨qb, 0, none⟩), .int .i64 k] w4 fun e w' => ∃ c, e = .returned (.tuple #[.slice (some ⟨w4.heap.size, 0, none⟩) 1 c, .bool true]) ∧ Bytes w' w4.heap.size [(k : Int)] ∧ Qu (fun k => qb ≤ k) w' qb 21 0 (cutL L1 k) ∧ Turn (QZ (fun k => qb ≤ k) w4) w4 w' ∧ w4.heap.size < w'.heap.size from by
    have h := qtake_in hq4 (k := k) (by rw [HL1.out]; omega)
    rw [HG2.out] at h
    exact h)
  have HY4 := Lib.hid hy4
  have HB4 := Lib.hid hB4
  have H4s := Lib.hid (show qb ≤ w4.heap.size by omega)
  clear hy4 hb4 hs4 hq4 h3s hB4
  go_wp2_with fail
  refine HTk.out.mono ?_
  rintro e w5 ⟨c5, rfl, hy5, hq5, ht5, hs5⟩
  obtain ⟨g2, hg2⟩ : ∃ g2, w4.heap.size = g2 := ⟨_, rfl⟩
  rw [hg2] at hy5 ⊢
  have hy4b := HY4.out.kept ht5 HY4.out.not_q
  have hB5 : Below qb w w5 := HB4.out.trans (ht5.below H4s.out (fun j hj hz => by have := hz.1; omega))
  have HTk2 := Lib.hid (show Calls Try.prog 17 #[.pointer (some ⟨qb, 0, none⟩), .int .i64 ((n - 1 : Nat) : Int)] w5 fun e w' => ∃ c, e = .returned (.tuple #[.slice (some ⟨w5.heap.size, 0, none⟩) 1 c, .bool true]) ∧ Bytes w' w5.heap.size [(k : Int)] ∧ Qu (fun k => qb ≤ k) w' qb 21 0 (cutL (cutL L1 k) (n - 1)) ∧ Turn (QZ (fun k => qb ≤ k) w5) w5 w' ∧ w5.heap.size < w'.heap.size from by
    have h := qtake_in hq5 (k := n - 1) (by rw [cutL_len (by rw [HL1.out]; omega), HL1.out]; omega)
    rw [HG3.out] at h
    exact h)
  have HY4b := Lib.hid hy4b
  have HY5 := Lib.hid hy5
  have HB5 := Lib.hid hB5
  have H5s := Lib.hid (show qb ≤ w5.heap.size by have := H4s.out; omega)
  have HN1 := Lib.hid (show ((n : Int) - 1) = ((n - 1 : Nat) : Int) by omega)
  clear hy5 hq5 ht5 hs5 hy4b hB5
  go_wp2_with fail
  rw [HN1.out]
  refine HTk2.out.mono ?_
  rintro e w6 ⟨c6, rfl, hy6, hq6, ht6, hs6⟩
  have hy4c := HY4b.out.kept ht6 HY4b.out.not_q
  have hy5c := HY5.out.kept ht6 HY5.out.not_q
  have hB6 : Below qb w w6 := HB5.out.trans (ht6.below H5s.out (fun j hj hz => by have := hz.1; omega))
  have hal := (Below.refl w6.heap.size w6).alloc (Nat.le_refl _) (.cells #[.int .u8 k] 5)
  have h6s : qb ≤ w6.heap.size := by have := H5s.out; omega
  have hq7 := hq6.below hal
  have hy4d := hy4c.below hal
  have hy5d := hy5c.below hal
  have hy6d := hy6.below hal
  have hf7 : Has (w6.alloc (.cells #[.int .u8 k] 5)) (w6.heap.size + 1) (some ⟨w6.heap.size, 0, none⟩) (u8s [(k : Int)]) := Has.fresh w6 #[.int .u8 k] 5
  have hB7 : Below qb w (w6.alloc (.cells #[.int .u8 k] 5)) := hB6.alloc h6s _
  have HS1 := Lib.hid (same_is (A := some ⟨g1, 0, none⟩) (A' := some ⟨w6.heap.size, 0, none⟩) (c := c4) (c' := 1) (la := 1) (lb := 1) (r := true) (zs := [(k : Int)]) (ys := [(k : Int)]) rfl rfl (by omega) (same_one k) (w6.alloc (.cells #[.int .u8 k] 5)) hy4d.has.tight hf7.tight)
  have HS2 := Lib.hid (fun q => same_is (A := some ⟨g2, 0, none⟩) (A' := some ⟨g1, 0, none⟩) (c := c5) (c' := c4) (la := 1) (lb := 1) (r := true) (zs := [(k : Int)]) (ys := [(k : Int)]) rfl rfl (by omega) (same_one k) ((w6.alloc (.cells #[.int .u8 k] 5)).drewN q) (hy5d.has.tight.drewN q) (hy4d.has.tight.drewN q))
  have HS3 := Lib.hid (fun q => same_is (A := some ⟨w5.heap.size, 0, none⟩) (A' := some ⟨g1, 0, none⟩) (c := c6) (c' := c4) (la := 1) (lb := 1) (r := true) (zs := [(k : Int)]) (ys := [(k : Int)]) rfl rfl (by omega) (same_one k) ((w6.alloc (.cells #[.int .u8 k] 5)).drewN q) (hy6d.has.tight.drewN q) (hy4d.has.tight.drewN q))
  have HQ7 := Lib.hid hq7
  have HB7 := Lib.hid hB7
  have H7s := Lib.hid (show qb ≤ (w6.alloc (.cells #[.int .u8 k] 5)).heap.size by simp; omega)
  have HLn := Lib.hid (fun q => show Calls Try.prog 13 #[.pointer (some ⟨qb, 0, none⟩)] ((w6.alloc (.cells #[.int .u8 k] 5)).drewN q) fun e w' => e = .returned (.int .i64 ((n - 1 : Nat) : Int)) ∧ (w6.alloc (.cells #[.int .u8 k] 5)).drewN q = w' from by
    have h := qlen_any (hq7.drewN q)
    have e1 : (cutL (cutL L1 k) (n - 1)).length = n - 1 := by
      have h1 : (cutL L1 k).length = n := by rw [cutL_len (by rw [HL1.out]; omega), HL1.out]; omega
      rw [cutL_len (by rw [h1]; omega), h1]
    rw [e1] at h
    exact h)
  clear hy4c hy5c hB6 hal h6s hq7 hy4d hy5d hy6d hf7 hB7 hy6 hq6 ht6 hs6
  go_wp2_with fail
  refine HS1.out.mono ?_
  rintro e w7 ⟨rfl, q1, rfl⟩
  go_wp2_with fail
  refine (HS2.out q1).mono ?_
  rintro e w7 ⟨rfl, q2, rfl⟩
  rw [World.drewN_drewN]
  go_wp2_with fail
  refine (HS3.out (q1 + q2)).mono ?_
  rintro e w7 ⟨rfl, q3, rfl⟩
  rw [World.drewN_drewN]
  go_wp2_with fail
  refine (HLn.out (q1 + q2 + q3)).mono ?_
  rintro e w7 ⟨rfl, rfl⟩
  go_wp2_with fail
  refine (wakes7_any _).mono ?_
  rintro e w8 ⟨rfl, hb8⟩
  have HB8 := Lib.hid hb8
  clear hb8
  go_wp2_with fail
  go_ret
  exact ⟨rfl, by rw [HQB.out]; exact (below_drewN HB7.out _).trans (HB8.out.mono H7s.out)⟩
end Go.Proofs.Ytpopchigboacaaa
