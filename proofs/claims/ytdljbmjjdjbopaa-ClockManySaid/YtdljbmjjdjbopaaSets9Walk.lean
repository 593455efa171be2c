/- The walk of ClockSets. -/
import Derived.Test.YtdljbmjjdjbopaaClockOne
namespace Go.Proofs.Ytdljbmjjdjbopaa
open Go.RowKit Go.Maps

theorem small_mod (x n : Int) (h : 0 < n) : 0 ≤ x % n ∧ x % n < n := ⟨Int.emod_nonneg _ (by omega), Int.emod_lt_of_pos _ h⟩
set_option maxHeartbeats 2000000 in
theorem clockSets_walk (id a b wt : Int) (w : World) (h0 : fit id) (ha : fit a) (hb : fit b) (hw : fit wt) :
    Calls Try.prog 4 #[.int .i64 id, .int .i64 a, .int .i64 b, .int .i64 wt] w fun e w' => e = .returned (.bool true) ∧ Below w.heap.size w w' := by
  have HID := Lib.hid h0
  have KA := Lib.hid (fun w => within_any a 30 (by omega) (by omega) (wf_i64 ha).1 (wf_i64 ha).2 w)
  have KB := Lib.hid (fun w => within_any b 30 (by omega) (by omega) (wf_i64 hb).1 (wf_i64 hb).2 w)
  have KW := Lib.hid (fun w => within_any wt 30 (by omega) (by omega) (wf_i64 hw).1 (wf_i64 hw).2 w)
  obtain ⟨a0, a1⟩ := small_mod a 30 (by omega)
  obtain ⟨b0, b1⟩ := small_mod b 30 (by omega)
  obtain ⟨w0, w1⟩ := small_mod wt 30 (by omega)
  obtain ⟨x, hx⟩ : ∃ x : Nat, a % 30 = x := ⟨(a % 30).toNat, by omega⟩
  obtain ⟨y, hy⟩ : ∃ y : Nat, b % 30 = y := ⟨(b % 30).toNat, by omega⟩
  obtain ⟨n, hn⟩ : ∃ n : Nat, wt % 30 = n := ⟨(wt % 30).toNat, by omega⟩
  rw [hx] at KA a0 a1
  rw [hy] at KB b0 b1
  rw [hn] at KW w0 w1
  have hm : 10 < maxLen := by unfold maxLen; omega
  have HM := Lib.hid hm
  clear h0 ha hb hw hx hy hn hm
  go_enter Try.func4, Try.ntmps4
  go_wp2_with fail
  refine (KA.out _).mono ?_
  rintro e u1 ⟨rfl, rfl⟩
  go_wp2_with fail
  refine (KB.out _).mono ?_
  rintro e u2 ⟨rfl, rfl⟩
  go_wp2_with fail
  refine (KW.out _).mono ?_
  rintro e u3 ⟨rfl, rfl⟩
  go_wp2_with fail
  refine (c1_new w _ id (Below.refl _ _)).mono ?_
  rintro e w1 ⟨cb, bm, rfl, h1⟩
  have H1 := Lib.hid h1
  clear h1
  go_wp2_with fail
  refine (H1.out.set (by have := HM.out; omega) (by omega) HID.out (by omega) (by omega)).mono ?_
  rintro e w2 ⟨rfl, h2⟩
  have H2 := Lib.hid h2
  clear h2
  go_wp2_with fail
  go_loopw [10] (fun v wr => ∃ i : Nat, v = .int .i64 i ∧ i ≤ n ∧ Hid (C1 w cb bm i 1 id (some (0 + (1 + x))) wr)) (fun v _ => n - (intOf v).toNat)
  case atStart => exact ⟨0, rfl, Nat.zero_le _, H2⟩
  case round =>
    obtain ⟨i, rfl, hi, HI⟩ := hrel
    by_cases hlt : i < n
    · go_wp2_with fail
      refine (HI.out.tick (by omega) (by omega)).mono ?_
      rintro e w3 ⟨rfl, h3⟩
      have H3 := Lib.hid h3
      clear h3
      go_wp2_with fail
      go_roundw
      case rel => exact ⟨i + 1, by go_num, by omega, H3⟩
      case measure => simp [intOf]; omega
    · obtain rfl : i = n := by omega
      go_wp2_with fail
      refine (HI.out.set (by have := HM.out; omega) (by omega) HID.out (by omega) (by omega)).mono ?_
      rintro e w3 ⟨rfl, h3⟩
      have H3 := Lib.hid (show C1 w cb bm ((i : Int) + (0 : Nat)) 2 id (some ((i : Int) + (1 + y))) w3 from by rw [show ((i : Int) + (0 : Nat)) = i by omega]; exact h3)
      clear h3
      go_wp2_with fail
      go_loopw [11] (fun v wr => ∃ j : Nat, v = .int .i64 ((j : Int) + 1) ∧ j ≤ y ∧ Hid (C1 w cb bm ((i : Int) + j) 2 id (some ((i : Int) + (1 + y))) wr)) (fun v _ => y + 1 - (intOf v).toNat)
      case atStart => exact ⟨0, rfl, Nat.zero_le _, H3⟩
      case round =>
        obtain ⟨j, rfl, hj, HJ⟩ := hrel
        by_cases hlt2 : j < y
        · go_wp2_with fail
          refine (HJ.out.tick (by omega) (by omega)).mono ?_
          rintro e w4 ⟨rfl, h4⟩
          have H4 := Lib.hid h4
          clear h4
          go_wp2_with fail
          refine (H4.out.due_off (by omega) (fun f hf => by injection hf; omega)).mono ?_
          rintro e w5 ⟨A, c, rfl, h5⟩
          have H5 := Lib.hid (show C1 w cb bm ((i : Int) + (j + 1 : Nat)) 2 id (some ((i : Int) + (1 + y))) w5 from by rw [show ((i : Int) + (j + 1 : Nat)) = (i : Int) + j + 1 by omega]; exact h5)
          clear h5
          go_wp2_with fail
          go_roundw
          case rel => exact ⟨j + 1, by go_num, by omega, H5⟩
          case measure => simp [intOf]; omega
        · obtain rfl : j = y := by omega
          have HX := Lib.hid (show max ((i : Int) + (1 + j) - ((i : Int) + j)) 0 = 1 by omega)
          have KL := Lib.hid (HJ.out.left_on (by omega) HID.out)
          rw [HX.out] at KL
          go_wp2_with fail
          refine KL.out.mono ?_
          rintro e w4 ⟨rfl, rfl⟩
          clear KL HX
          go_wp2_with fail
          refine (HJ.out.tick (by omega) (by omega)).mono ?_
          rintro e w5 ⟨rfl, h5⟩
          have H5 := Lib.hid h5
          clear h5
          go_wp2_with fail
          refine (H5.out.due_on (by omega) (by omega)).mono ?_
          rintro e w6 ⟨A2, c2, rfl, hh, h6⟩
          have H6 := Lib.hid h6
          have HH := Lib.hid hh
          clear h6 hh
          go_wp2_with fail
          have HB := Lib.hid ((Below.refl w6.heap.size w6).alloc (Nat.le_refl _) (.cells #[.int .i64 id] 3))
          have HA := Lib.hid (Has.fresh w6 #[.int .i64 id] 3)
          refine (same_due (Has.tight (HH.out.below HB.out (Nat.le_refl _))) (Has.tight HA.out)).mono ?_
          rintro e w7 ⟨rfl, nq, hw7⟩
          have H7 := Lib.hid (show C1 w cb bm ((i : Int) + j + 1) 2 id none w7 from by rw [hw7]; exact (H6.out.below HB.out).drewN nq)
          clear hw7
          go_wp2_with fail
          refine (H7.out.set (by have := HM.out; omega) (by omega) HID.out (by omega) (by omega)).mono ?_
          rintro e w8 ⟨rfl, h8⟩
          have H8 := Lib.hid h8
          clear h8
          go_wp2_with fail
          refine (H8.out.drop HID.out).mono ?_
          rintro e w9 ⟨rfl, h9⟩
          have H9 := Lib.hid h9
          clear h9
          go_wp2_with fail
          refine (H9.out.drop HID.out).mono ?_
          rintro e w10 ⟨rfl, h10⟩
          have H10 := Lib.hid (show C1 w cb bm ((i : Int) + j + 1 + (0 : Nat)) 3 id none w10 from by rw [show ((i : Int) + j + 1 + (0 : Nat)) = (i : Int) + j + 1 by omega]; exact h10)
          clear h10
          go_wp2_with fail
          go_loopw [14] (fun v wr => ∃ k : Nat, v = .int .i64 k ∧ k ≤ x + 2 ∧ Hid (C1 w cb bm ((i : Int) + j + 1 + k) 3 id none wr)) (fun v _ => x + 2 - (intOf v).toNat)
          case atStart => exact ⟨0, rfl, Nat.zero_le _, H10⟩
          case round =>
            obtain ⟨k, rfl, hk, HK⟩ := hrel
            by_cases hlt3 : k < x + 2
            · go_wp2_with fail
              refine (HK.out.tick (by omega) (by omega)).mono ?_
              rintro e w11 ⟨rfl, h11⟩
              have H11 := Lib.hid (show C1 w cb bm ((i : Int) + j + 1 + (k + 1 : Nat)) 3 id none w11 from by rw [show ((i : Int) + j + 1 + (k + 1 : Nat)) = (i : Int) + j + 1 + k + 1 by omega]; exact h11)
              clear h11
              go_wp2_with fail
              go_roundw
              case rel => exact ⟨k + 1, by go_num, by omega, H11⟩
              case measure => simp [intOf]; omega
            · obtain rfl : k = x + 2 := by omega
              go_wp2_with fail
              refine (HK.out.due_off (by omega) (fun f hf => by cases hf)).mono ?_
              rintro e w11 ⟨A3, c3, rfl, h11⟩
              have H11 := Lib.hid h11.low
              clear h11
              go_wp2_with fail
              refine (wakes9_any _).mono ?_
              rintro e w12 ⟨rfl, hb⟩
              go_wp2_with fail
              go_ret
              exact ⟨rfl, H11.out.trans (hb.mono H11.out.size)⟩
end Go.Proofs.Ytdljbmjjdjbopaa
