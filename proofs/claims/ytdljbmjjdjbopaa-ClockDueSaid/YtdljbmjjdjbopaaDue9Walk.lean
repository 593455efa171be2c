/- The walk of ClockDue. -/
import Derived.Test.YtdljbmjjdjbopaaClockOne
import Derived.Test.YtdljbmjjdjbopaaSets9Walk
namespace Go.Proofs.Ytdljbmjjdjbopaa
open Go.RowKit Go.Maps

set_option maxRecDepth 100000 in
set_option maxHeartbeats 4000000 in
theorem clockDue_walk (id n0 m0 : Int) (w : World) (h0 : fit id) (ha : fit n0) (hb : fit m0) :
    Calls Try.prog 6 #[.int .i64 id, .int .i64 n0, .int .i64 m0] w fun e w' => e = .returned (.bool true) ∧ Below w.heap.size w w' := by
  have HID := Lib.hid h0
  have KA := Lib.hid (fun w => within_any n0 300 (by omega) (by omega) (wf_i64 ha).1 (wf_i64 ha).2 w)
  have KB := Lib.hid (fun w => within_any m0 50 (by omega) (by omega) (wf_i64 hb).1 (wf_i64 hb).2 w)
  obtain ⟨a0, a1⟩ := small_mod n0 300 (by omega)
  obtain ⟨b0, b1⟩ := small_mod m0 50 (by omega)
  obtain ⟨x, hx⟩ : ∃ x : Nat, n0 % 300 = x := ⟨(n0 % 300).toNat, by omega⟩
  obtain ⟨y, hy⟩ : ∃ y : Nat, m0 % 50 = y := ⟨(m0 % 50).toNat, by omega⟩
  rw [hx] at KA a0 a1
  rw [hy] at KB b0 b1
  have hm : 10 < maxLen := by unfold maxLen; omega
  have HM := Lib.hid hm
  clear h0 ha hb hx hy hm
  go_enter Try.func6, Try.ntmps6
  go_wp2_with fail
  refine (KA.out _).mono ?_
  rintro e u1 ⟨rfl, rfl⟩
  go_wp2_with fail
  refine (KB.out _).mono ?_
  rintro e u2 ⟨rfl, rfl⟩
  go_wp2_with fail
  refine (c1_new w _ id (Below.refl _ _)).mono ?_
  rintro e w1 ⟨cb, bm, rfl, h1⟩
  have H1 := Lib.hid h1
  clear h1
  go_wp2_with fail
  refine (H1.out.set (by have := HM.out; omega) (by omega) HID.out (by omega) (by omega)).mono ?_
  rintro e w2 ⟨rfl, h2⟩
  have H2 := Lib.hid (show C1 w cb bm ((0 : Nat) : Int) 1 id (if 0 < 1 + x then some (0 + (1 + (x : Int))) else none) w2 from by rw [if_pos (by omega)]; exact h2)
  clear h2
  go_wp2_with fail
  go_loopw [8] (fun v wr => ∃ j : Nat, v = .int .i64 ((j : Int) + 1) ∧ j ≤ 1 + x + y ∧ Hid (C1 w cb bm (j : Int) 1 id (if j < 1 + x then some (0 + (1 + (x : Int))) else none) wr)) (fun v _ => 2 + x + y - (intOf v).toNat)
  case atStart => exact ⟨0, rfl, Nat.zero_le _, H2⟩
  case round =>
    obtain ⟨j, rfl, hj, HJ⟩ := hrel
    by_cases hlt : j < 1 + x + y
    · by_cases c1 : j + 1 < 1 + x
      · have HJ2 := Lib.hid HJ.out
        rw [if_pos (by omega)] at HJ2
        have HX := Lib.hid (show max (0 + (1 + (x : Int)) - ((j : Int) + 1)) 0 = 1 + (x : Int) - ((j : Int) + 1) by omega)
        have hw : IntKind.i64.wrap (1 + (x : Int) - ((j : Int) + 1)) = 1 + (x : Int) - ((j : Int) + 1) := IntWalk.i64_in _ ⟨by omega, by omega⟩
        clear HJ
        go_wp2_with fail
        refine (HJ2.out.tick (by omega) (by omega)).mono ?_
        rintro e w3 ⟨rfl, h3⟩
        have H3 := Lib.hid h3
        have KL := Lib.hid (h3.left_on (by omega) HID.out)
        rw [HX.out] at KL
        clear h3
        go_wp2_with fail
        refine KL.out.mono ?_
        rintro e w4 ⟨rfl, rfl⟩
        clear KL
        go_wp2_with fail
        refine (H3.out.due_off (by omega) (fun f hf => by injection hf; omega)).mono ?_
        rintro e w5 ⟨A, c, rfl, h5⟩
        have H5 := Lib.hid (show C1 w cb bm ((j + 1 : Nat) : Int) 1 id (if j + 1 < 1 + x then some (0 + (1 + (x : Int))) else none) w5 from by rw [if_pos c1]; exact h5)
        clear h5
        go_wp2_with fail
        go_roundw
        case rel => exact ⟨j + 1, by go_num, by omega, H5⟩
        case measure => simp [intOf]; omega
      · by_cases c2 : j + 1 = 1 + x
        · obtain rfl : j = x := by omega
          have HJ2 := Lib.hid HJ.out
          rw [if_pos (by omega)] at HJ2
          have HX := Lib.hid (show max (0 + (1 + (j : Int)) - ((j : Int) + 1)) 0 = 0 by omega)
          clear HJ
          go_wp2_with fail
          refine (HJ2.out.tick (by omega) (by omega)).mono ?_
          rintro e w3 ⟨rfl, h3⟩
          have H3 := Lib.hid h3
          have KL := Lib.hid (h3.left_on (by omega) HID.out)
          rw [HX.out] at KL
          clear h3
          go_wp2_with fail
          refine KL.out.mono ?_
          rintro e w4 ⟨rfl, rfl⟩
          clear KL
          go_wp2_with fail
          refine (H3.out.due_on (by omega) (by omega)).mono ?_
          rintro e w5 ⟨A, c, rfl, hh, h5⟩
          have H5 := Lib.hid h5
          have HH := Lib.hid hh
          clear h5 hh
          go_wp2_with fail
          have HB := Lib.hid ((Below.refl w5.heap.size w5).alloc (Nat.le_refl _) (.cells #[.int .i64 id] 3))
          have HA := Lib.hid (Has.fresh w5 #[.int .i64 id] 3)
          refine (same_due (Has.tight (HH.out.below HB.out (Nat.le_refl _))) (Has.tight HA.out)).mono ?_
          rintro e w7 ⟨rfl, nq, hw7⟩
          have H7 := Lib.hid (show C1 w cb bm ((j + 1 : Nat) : Int) 1 id (if j + 1 < 1 + j then some (0 + (1 + (j : Int))) else none) w7 from by rw [hw7, if_neg (by omega)]; exact (H5.out.below HB.out).drewN nq)
          clear hw7
          go_wp2_with fail
          go_roundw
          case rel => exact ⟨j + 1, by go_num, by omega, H7⟩
          case measure => simp [intOf]; omega
        · have HJ2 := Lib.hid HJ.out
          rw [if_neg (by omega)] at HJ2
          clear HJ
          go_wp2_with fail
          refine (HJ2.out.tick (by omega) (by omega)).mono ?_
          rintro e w3 ⟨rfl, h3⟩
          have H3 := Lib.hid h3
          clear h3
          go_wp2_with fail
          refine (H3.out.left_off HID.out).mono ?_
          rintro e w4 ⟨rfl, rfl⟩
          go_wp2_with fail
          refine (H3.out.due_off (by omega) (fun f hf => by cases hf)).mono ?_
          rintro e w5 ⟨A, c, rfl, h5⟩
          have H5 := Lib.hid (show C1 w cb bm ((j + 1 : Nat) : Int) 1 id (if j + 1 < 1 + x then some (0 + (1 + (x : Int))) else none) w5 from by rw [if_neg (by omega)]; exact h5)
          clear h5
          go_wp2_with fail
          go_roundw
          case rel => exact ⟨j + 1, by go_num, by omega, H5⟩
          case measure => simp [intOf]; omega
    · obtain rfl : j = 1 + x + y := by omega
      go_wp2_with fail
      refine HJ.out.now.mono ?_
      rintro e w3 ⟨rfl, rfl⟩
      have H3 := Lib.hid HJ.out.low
      go_wp2_with fail
      refine (wakes9_any _).mono ?_
      rintro e w4 ⟨rfl, hb⟩
      go_wp2_with fail
      go_ret
      exact ⟨rfl, H3.out.trans (hb.mono H3.out.size)⟩
end Go.Proofs.Ytdljbmjjdjbopaa
