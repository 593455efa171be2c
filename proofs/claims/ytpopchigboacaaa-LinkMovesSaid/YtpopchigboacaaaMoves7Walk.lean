/- The walk of LinkMoves. -/
import Derived.Test.YtpopchigboacaaaLinkLaws
namespace Go.Proofs.Ytpopchigboacaaa
open Go.RowKit Go.Sort

theorem cut_put {α : Type} (L : List α) {d : Nat} (x : α) (h : d ≤ L.length) : cutL (putL L d x) d = L := by
  have h1 : (L.take d).length = d := by simp; omega
  unfold cutL putL
  rw [List.append_assoc, List.take_left' h1, show d + 1 = d + 1 from rfl, ← List.append_assoc, List.drop_left' (by simp; omega), List.take_append_drop]
theorem put_cut {α : Type} {L : List α} {k : Nat} (h : k < L.length) : putL (cutL L k) k L[k] = L := by
  have h1 : (L.take k).length = k := by simp; omega
  unfold cutL putL
  rw [List.take_left' h1, List.drop_left' h1, List.append_assoc, List.singleton_append, List.getElem_cons_drop, List.take_append_drop]
theorem put_get {α : Type} (L : List α) {d : Nat} (x : α) (h : d ≤ L.length) (h2 : d < (putL L d x).length) : (putL L d x)[d] = x := by
  have h1 : (L.take d).length = d := by simp; omega
  simp [putL, h1]
theorem same_one (k : Nat) : sameB [(k : Int)] [(k : Int)] = true := by simp [sameB]
set_option maxHeartbeats 2000000 in
set_option maxRecDepth 100000 in
theorem linkMoves_walk (a0 a1 a2 : Int) (w : World) (w0 : (Lit.int .i64 a0).wf = true) (w1 : (Lit.int .i64 a1).wf = true) (w2 : (Lit.int .i64 a2).wf = true) :
    Calls Try.prog 3 #[.int .i64 a0, .int .i64 a1, .int .i64 a2] w fun e w' => e = .returned (.bool true) ∧ Below w.heap.size w w' := by
  have HW0 := Lib.hid (fun w => within_any a0 20 (by omega) (by omega) (wf_i64 w0).1 (wf_i64 w0).2 w)
  obtain ⟨m, hm⟩ : ∃ m : Nat, a0 % 20 = m := ⟨(a0 % 20).toNat, by omega⟩
  have hm9 : m < 20 := by omega
  rw [hm] at HW0
  obtain ⟨n, hn⟩ : ∃ n : Nat, 1 + m = n := ⟨_, rfl⟩
  have HNe := Lib.hid (show (1 : Int) + (m : Int) = (n : Int) by omega)
  have hn0 : 1 ≤ n := by omega
  have hn1 : n ≤ 20 := by omega
  have HW1 := Lib.hid (fun w => within_any a1 n (by omega) (by omega) (wf_i64 w1).1 (wf_i64 w1).2 w)
  have HW2 := Lib.hid (fun w => within_any a2 n (by omega) (by omega) (wf_i64 w2).1 (wf_i64 w2).2 w)
  obtain ⟨k, hk⟩ : ∃ k : Nat, a1 % (n : Int) = k := ⟨(a1 % (n : Int)).toNat, by have := Int.emod_nonneg a1 (show (n : Int) ≠ 0 by omega); omega⟩
  obtain ⟨d, hd⟩ : ∃ d : Nat, a2 % (n : Int) = d := ⟨(a2 % (n : Int)).toNat, by have := Int.emod_nonneg a2 (show (n : Int) ≠ 0 by omega); omega⟩
  have hkn : k < n := by have := Int.emod_lt_of_pos a1 (show 0 < (n : Int) by omega); omega
  have hdn : d < n := by have := Int.emod_lt_of_pos a2 (show 0 < (n : Int) by omega); omega
  rw [hk] at HW1
  rw [hd] at HW2
  have HF := Lib.hid (fun w => filled_any (n := n) (room := 20) (by omega) hn1 (by omega) w)
  have hkF : k < (fillL n).length := by rw [fillL_len]; exact hkn
  have hdF : d < (fillL n).length := by rw [fillL_len]; exact hdn
  have HKF := Lib.hid hkF
  have HDF := Lib.hid hdF
  have hw1 : (1 : Int) + (m : Int) ≤ 1000 := by omega
  clear hm hn hk hd hkF hdF w0 w1 w2
  go_enter Try.func3, Try.ntmps3
  go_wp2_with fail
  refine (HW0.out _).mono ?_
  rintro e wa ⟨rfl, rfl⟩
  go_wp2_with fail
  rw [HNe.out]
  refine (HW1.out _).mono ?_
  rintro e wa ⟨rfl, rfl⟩
  go_wp2_with fail
  refine (HW2.out _).mono ?_
  rintro e wa ⟨rfl, rfl⟩
  clear hw1
  go_wp2_with fail
  obtain ⟨qb, hqb⟩ : ∃ qb, w.heap.size = qb := ⟨_, rfl⟩
  have HQB := Lib.hid hqb
  refine (HF.out w).mono ?_
  rintro e wx ⟨rfl, hq, hb⟩
  rw [hqb] at hq
  rw [hqb]
  obtain ⟨L1, hL1⟩ : ∃ L1, putL (cutL (fillL n) k) d ((fillL n)[k]'HKF.out) = L1 := ⟨_, rfl⟩
  have HM := Lib.hid (qmove_in hq HKF.out HDF.out)
  have hc1 : d ≤ (cutL (fillL n) k).length := by rw [cutL_len HKF.out, fillL_len]; omega
  have hl1 : L1.length = n := by rw [← hL1, putL_len hc1, cutL_len HKF.out, fillL_len]; omega
  have hg1 : ∀ h : d < L1.length, L1[d] = [(k : Int)] := by subst hL1; intro h; rw [put_get _ _ hc1]; exact fillL_get HKF.out
  have hback : ∀ h : d < L1.length, putL (cutL L1 d) k L1[d] = fillL n := by
    subst hL1
    intro h
    rw [put_get _ _ hc1, cut_put _ _ hc1]
    exact put_cut HKF.out
  rw [hL1] at HM
  have HL1 := Lib.hid hl1
  have HG1 := Lib.hid hg1
  have HBK := Lib.hid hback
  have HB := Lib.hid (show Below qb w wx from hqb ▸ hb)
  have hu : IntKind.u8.wrap (k : Int) = k := by rw [IntKind.wrap_u8]; omega
  have hx0 : qb ≤ wx.heap.size := by rw [← hqb]; exact hb.size
  have HX0 := Lib.hid hx0
  clear hc1 hl1 hg1 hback hL1 hq hb hqb hx0
  go_wp2_with fail
  refine HM.out.mono ?_
  rintro e w2 ⟨rfl, hq2, ht2⟩
  have HB2 := Lib.hid (show Below qb w w2 from HB.out.trans (ht2.below HX0.out (fun j hj hz => by have := hz.1; omega)))
  have HP := Lib.hid (show Calls Try.prog 11 #[.pointer (some ⟨qb, 0, none⟩), .int .i64 d] w2 fun e w' => ∃ c, e = .returned (.tuple #[.slice (some ⟨w2.heap.size, 0, none⟩) 1 c, .bool true]) ∧ Bytes w' w2.heap.size [(k : Int)] ∧ Below w2.heap.size w2 w' ∧ w2.heap.size < w'.heap.size from by
    have h := qpeek_in hq2 (k := d) (by rw [HL1.out]; omega)
    rw [HG1.out] at h
    exact h)
  have HQ2 := Lib.hid hq2
  clear hq2 ht2
  go_wp2_with fail
  refine HP.out.mono ?_
  rintro e w3 ⟨c3, rfl, hby, hb3, _⟩
  have HS := Lib.hid (same_is (A := some ⟨w2.heap.size, 0, none⟩) (A' := some ⟨w3.heap.size, 0, none⟩) (c := c3) (c' := 1) (la := 1) (lb := 1) (r := true) (zs := [(k : Int)]) (ys := [(k : Int)]) rfl rfl (by omega) (same_one k) (w3.alloc (.cells #[.int .u8 k] 5)) ((hby.has.tight.below ((Below.refl _ w3).alloc (Nat.le_refl _) _) (Nat.le_refl _)).tight) ((Has.fresh w3 #[.int .u8 k] 5 : Has _ _ _ (u8s [(k : Int)])).tight))
  have hq3 := (HQ2.out.below hb3).below ((Below.refl _ w3).alloc (Nat.le_refl _) (.cells #[.int .u8 k] 5))
  have HQ3 := Lib.hid hq3
  have hs2 := HB2.out.size
  have h22 : qb ≤ w2.heap.size := by have := HQB.out; omega
  have h3' : Below qb w w3 := HB2.out.trans (hb3.mono h22)
  have HB3 := Lib.hid (show Below qb w (w3.alloc (.cells #[.int .u8 k] 5)) from h3'.alloc (by have := hb3.size; omega) _)
  clear hby hb3 hq3 hs2 h22 h3'
  go_wp2_with fail
  refine HS.out.mono ?_
  rintro e w4 ⟨rfl, nq, rfl⟩
  have hq4 := HQ3.out.drewN nq
  have HB4 := Lib.hid (show Below qb w ((w3.alloc (.cells #[.int .u8 k] 5)).drewN nq) from below_drewN HB3.out _)
  obtain ⟨w4, hw4⟩ : ∃ w4, (w3.alloc (.cells #[.int .u8 k] 5)).drewN nq = w4 := ⟨_, rfl⟩
  rw [hw4] at hq4 HB4 ⊢
  have HO1 := Lib.hid (qmove_out hq4 (k := n) (dt := 0) (Or.inl (by simp [hasB, HL1.out])))
  have HO2 := Lib.hid (qmove_out hq4 (k := 0) (dt := n) (Or.inr (by simp [hasB, HL1.out])))
  have HO3 := Lib.hid (qmove_out hq4 (k := -1) (dt := 0) (Or.inl (by simp [hasB])))
  have HM2 := Lib.hid (show Calls Try.prog 10 #[.pointer (some ⟨qb, 0, none⟩), .int .i64 d, .int .i64 k] w4 fun e w' => e = .returned (.bool true) ∧ Qu (fun k => qb ≤ k) w' qb 20 0 (fillL n) ∧ Turn (QZ (fun k => qb ≤ k) w4) w4 w' from by
    have h := qmove_in hq4 (k := d) (dt := k) (by rw [HL1.out]; omega) (by rw [HL1.out]; omega)
    rw [HBK.out] at h
    exact h)
  have HQ4s := Lib.hid (show qb ≤ w4.heap.size from by have := HQB.out; have := HB4.out.size; omega)
  clear hq4 hw4
  go_wp2_with fail
  refine HO1.out.mono ?_
  rintro e w5 ⟨rfl, rfl⟩
  go_wp2_with fail
  refine HO2.out.mono ?_
  rintro e w5 ⟨rfl, rfl⟩
  go_wp2_with fail
  refine HO3.out.mono ?_
  rintro e w5 ⟨rfl, rfl⟩
  go_wp2_with fail
  refine HM2.out.mono ?_
  rintro e w5 ⟨rfl, hq5, ht5⟩
  have HQ5 := Lib.hid hq5
  have HB5 := Lib.hid (show Below qb w w5 from HB4.out.trans (ht5.below HQ4s.out (fun j hj hz => by have := hz.1; omega)))
  clear hq5 ht5 hu
  go_wp2_with fail
  go_loopw [11] (fun x wr => ∃ i : Nat, x = .int .i64 i ∧ i ≤ n ∧ Hid (Qu (fun k => qb ≤ k) wr qb 20 0 (fillL n)) ∧ Hid (Below qb w wr)) (fun x _ => n - (intOf x).toNat)
  case atStart => exact ⟨0, rfl, Nat.zero_le _, HQ5.out, HB5.out⟩
  case round =>
    obtain ⟨i, rfl, hi, HQi, HBi⟩ := hrel
    by_cases hlt : i < n
    · have hu : IntKind.u8.wrap (i : Int) = i := by rw [IntKind.wrap_u8]; omega
      have HP := Lib.hid (show Calls Try.prog 11 #[.pointer (some ⟨qb, 0, none⟩), .int .i64 i] wr fun e w' => ∃ c, e = .returned (.tuple #[.slice (some ⟨wr.heap.size, 0, none⟩) 1 c, .bool true]) ∧ Bytes w' wr.heap.size [(i : Int)] ∧ Below wr.heap.size wr w' ∧ wr.heap.size < w'.heap.size from by
        have h := qpeek_in HQi.out (k := i) (by rw [fillL_len]; omega)
        rw [fillL_get] at h
        exact h)
      go_wp2_with fail
      refine HP.out.mono ?_
      rintro e w3 ⟨c3, rfl, hby, hb3, _⟩
      have HS := Lib.hid (same_is (A := some ⟨wr.heap.size, 0, none⟩) (A' := some ⟨w3.heap.size, 0, none⟩) (c := c3) (c' := 1) (la := 1) (lb := 1) (r := true) (zs := [(i : Int)]) (ys := [(i : Int)]) rfl rfl (by omega) (same_one i) (w3.alloc (.cells #[.int .u8 i] 5)) ((hby.has.tight.below ((Below.refl _ w3).alloc (Nat.le_refl _) _) (Nat.le_refl _)).tight) ((Has.fresh w3 #[.int .u8 i] 5 : Has _ _ _ (u8s [(i : Int)])).tight))
      have hq3 := (HQi.out.below hb3).below ((Below.refl _ w3).alloc (Nat.le_refl _) (.cells #[.int .u8 i] 5))
      have HQ3 := Lib.hid hq3
      have hs2 := HBi.out.size
      have h22 : qb ≤ wr.heap.size := by have := HQB.out; omega
      have h3' : Below qb w w3 := HBi.out.trans (hb3.mono h22)
      have HB3 := Lib.hid (show Below qb w (w3.alloc (.cells #[.int .u8 i] 5)) from h3'.alloc (by have := hb3.size; omega) _)
      clear hby hb3 hq3 hs2 h22 h3'
      go_wp2_with fail
      refine HS.out.mono ?_
      rintro e w4 ⟨rfl, nq, rfl⟩
      go_wp2_with fail
      go_roundw
      case rel => exact ⟨i + 1, by go_num, by omega, HQ3.out.drewN _, below_drewN HB3.out _⟩
      case measure => simp [intOf]; omega
    · obtain rfl : i = n := by omega
      have HL := Lib.hid (show Calls Try.prog 13 #[.pointer (some ⟨qb, 0, none⟩)] wr fun e w' => e = .returned (.int .i64 (i : Int)) ∧ wr = w' from by have h := qlen_any HQi.out; rw [fillL_len] at h; exact h)
      have HLo := Lib.hid (qlost_any HQi.out)
      go_wp2_with fail
      refine HL.out.mono ?_
      rintro e w5 ⟨rfl, rfl⟩
      go_wp2_with fail
      refine HLo.out.mono ?_
      rintro e w5 ⟨rfl, rfl⟩
      go_wp2_with fail
      refine (wakes7_any _).mono ?_
      rintro e w6 ⟨rfl, hb6⟩
      have HB6 := Lib.hid hb6
      clear hb6
      go_wp2_with fail
      go_ret
      have hs := HBi.out.size
      exact ⟨rfl, by rw [HQB.out]; exact HBi.out.trans (HB6.out.mono (by have := HQB.out; omega))⟩
end Go.Proofs.Ytpopchigboacaaa
