/- The walk of CodeZigs: it returns true for every int. -/
import Derived.Test.YtfjgcpeaghlcgaaWakes
namespace Go.Proofs.Ytfjgcpeaghlcgaa
open Go.RowKit

theorem zig_is {n r : Int} (h : zigS n = r) (w : World) : Calls Try.prog 12 #[.int .i64 n] w fun e w' => e = .returned (.int .i64 r) ∧ w = w' := by
  rw [← h]; exact zig_any n w
theorem zag_is {n r : Int} (h : zagS n = r) (w : World) : Calls Try.prog 13 #[.int .i64 n] w fun e w' => e = .returned (.int .i64 r) ∧ w = w' := by
  rw [← h]; exact zag_any n w
theorem zigS_neg {n : Int} (h1 : -549755813888 ≤ n) (h2 : n < 0) : zigS n = -2 * n - 1 := by unfold zigS; rw [if_pos (by omega), if_pos h2]
theorem zigS_pos {n : Int} (h1 : 0 ≤ n) (h2 : n < 549755813888) : zigS n = 2 * n := by unfold zigS; rw [if_pos (by omega), if_neg (by omega)]
theorem zigS_out {n : Int} (h : n < -549755813888 ∨ 549755813888 ≤ n) : zigS n = 0 := by unfold zigS; rw [if_neg (by omega)]
theorem zagS_out {n : Int} (h : n < 0 ∨ 1099511627776 ≤ n) : zagS n = 0 := by unfold zagS; rw [if_pos h]
theorem zagS_bd {n : Int} (h1 : 0 ≤ n) (h2 : n < 1099511627776) : -549755813888 ≤ zagS n ∧ zagS n < 549755813888 := by
  unfold zagS; rw [if_neg (by omega)]; split <;> omega

set_option maxHeartbeats 400000 in
theorem codeZigs_walk (n : Int) (w : World) (_hw : (Lit.int .i64 n).wf = true) :
    Calls Try.prog 3 #[.int .i64 n] w fun e w' => e = .returned (.bool true) ∧ Below w.heap.size w w' := by
  clear _hw
  by_cases h1 : n < -549755813888
  · go_enter Try.func3, Try.ntmps3
    go_wp2_with fail
    refine (zig_is (zigS_out (Or.inl h1)) _).mono ?_
    rintro e w1 ⟨rfl, rfl⟩
    go_wp2_with fail
    refine (zag_is (zagS_out (Or.inl (by omega))) _).mono ?_
    rintro e w1 ⟨rfl, rfl⟩
    go_wp2_with fail
    refine (wakes_any _).mono ?_
    rintro e w1 ⟨rfl, hb⟩
    go_wp2_with fail
    go_ret
    exact ⟨rfl, hb⟩
  by_cases h2 : n < 0
  · have h1' : -549755813888 ≤ n := by omega
    have he : (-2 * n - 1) % 2 = 1 := by omega
    go_enter Try.func3, Try.ntmps3
    go_wp2_with fail
    refine (zig_is (zigS_neg h1' h2) _).mono ?_
    rintro e w1 ⟨rfl, rfl⟩
    go_wp2_with fail
    refine (zag_is (r := n) (by rw [← zigS_neg h1' h2]; exact zagS_zig h1' (by omega)) _).mono ?_
    rintro e w1 ⟨rfl, rfl⟩
    go_wp2_with fail
    refine (zag_is (zagS_out (Or.inl (by omega))) _).mono ?_
    rintro e w1 ⟨rfl, rfl⟩
    go_wp2_with fail
    refine (wakes_any _).mono ?_
    rintro e w1 ⟨rfl, hb⟩
    go_wp2_with fail
    go_ret
    exact ⟨rfl, hb⟩
  have h2' : 0 ≤ n := by omega
  clear h1
  by_cases h3 : n < 549755813888
  · obtain ⟨m, hm⟩ : ∃ m, zagS n = m := ⟨_, rfl⟩
    have HM := Lib.hid hm
    have HZ := Lib.hid (show zigS m = n by rw [← hm]; exact zigS_zag h2' (by omega))
    clear hm
    go_enter Try.func3, Try.ntmps3
    go_wp2_with fail
    refine (zig_is (zigS_pos h2' h3) _).mono ?_
    rintro e w1 ⟨rfl, rfl⟩
    go_wp2_with fail
    refine (zag_is (r := n) (by rw [← zigS_pos h2' h3]; exact zagS_zig (by omega) (by omega)) _).mono ?_
    rintro e w1 ⟨rfl, rfl⟩
    go_wp2_with fail
    refine (zag_is HM.out _).mono ?_
    rintro e w1 ⟨rfl, rfl⟩
    go_wp2_with fail
    refine (zig_is HZ.out _).mono ?_
    rintro e w1 ⟨rfl, rfl⟩
    go_wp2_with fail
    refine (wakes_any _).mono ?_
    rintro e w1 ⟨rfl, hb⟩
    go_wp2_with fail
    go_ret
    exact ⟨rfl, hb⟩
  have h3' : 549755813888 ≤ n := by omega
  by_cases h4 : n < 1099511627776
  · obtain ⟨m, hm⟩ : ∃ m, zagS n = m := ⟨_, rfl⟩
    have HM := Lib.hid hm
    have HZ := Lib.hid (show zigS m = n by rw [← hm]; exact zigS_zag h2' h4)
    clear hm
    go_enter Try.func3, Try.ntmps3
    go_wp2_with fail
    refine (zig_is (zigS_out (Or.inr h3')) _).mono ?_
    rintro e w1 ⟨rfl, rfl⟩
    go_wp2_with fail
    refine (zag_is HM.out _).mono ?_
    rintro e w1 ⟨rfl, rfl⟩
    go_wp2_with fail
    refine (zig_is HZ.out _).mono ?_
    rintro e w1 ⟨rfl, rfl⟩
    go_wp2_with fail
    refine (wakes_any _).mono ?_
    rintro e w1 ⟨rfl, hb⟩
    go_wp2_with fail
    go_ret
    exact ⟨rfl, hb⟩
  · go_enter Try.func3, Try.ntmps3
    go_wp2_with fail
    refine (zig_is (zigS_out (Or.inr h3')) _).mono ?_
    rintro e w1 ⟨rfl, rfl⟩
    go_wp2_with fail
    refine (zag_is (zagS_out (Or.inr (by omega))) _).mono ?_
    rintro e w1 ⟨rfl, rfl⟩
    go_wp2_with fail
    refine (wakes_any _).mono ?_
    rintro e w1 ⟨rfl, hb⟩
    go_wp2_with fail
    go_ret
    exact ⟨rfl, hb⟩
end Go.Proofs.Ytfjgcpeaghlcgaa
