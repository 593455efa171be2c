/- The contracts of ballot's Nodes, Quorum, Weak, Primary; the document's examples. (Over ballot as it landed at d9f4045.) -/
import Derived.Test.YtallcmknajigfaaRefBallot
namespace Go.Proofs.Ytallcmknajigfaa
open Go.RowKit

theorem ballow_in {f : Int} (h1 : 1 ≤ f) (h2 : f ≤ 4) (w : World) : Calls Try.prog 52 #[.int .i64 f] w fun e w' => e = .returned (.bool true) ∧ w = w' := by
  go_enter Try.func52, Try.ntmps52
  go_wp2
  go_ret
  exact ⟨rfl, rfl⟩
theorem ballow_out {f : Int} (h : f < 1 ∨ 4 < f) (w : World) : Calls Try.prog 52 #[.int .i64 f] w fun e w' => e = .returned (.bool false) ∧ w = w' := by
  by_cases h1 : f < 1
  · clear h
    go_enter Try.func52, Try.ntmps52
    go_wp2
    go_ret
    exact ⟨rfl, rfl⟩
  · have h1' : 1 ≤ f := by omega
    have h2' : ¬ f ≤ 4 := by omega
    clear h h1
    go_enter Try.func52, Try.ntmps52
    go_wp2
    go_ret
    exact ⟨rfl, rfl⟩
theorem bnodes_any (f : Int) (w : World) : Calls Try.prog 16 #[.int .i64 f] w fun e w' => e = .returned (.int .i64 (nodesS f)) ∧ w = w' := by
  by_cases h : f < 1 ∨ 4 < f
  · rw [nodesS_out h]
    have HA := Lib.hid (ballow_out h)
    clear h
    go_enter Try.func16, Try.ntmps16
    go_wp2_with fail
    refine (HA.out _).mono ?_
    rintro e w' ⟨rfl, rfl⟩
    go_wp2_with fail
    go_ret
    exact ⟨rfl, rfl⟩
  · have h1 : 1 ≤ f := by omega
    have h2 : f ≤ 4 := by omega
    rw [nodesS_in h1 h2]
    have HA := Lib.hid (ballow_in h1 h2)
    clear h
    go_enter Try.func16, Try.ntmps16
    go_wp2_with fail
    refine (HA.out _).mono ?_
    rintro e w' ⟨rfl, rfl⟩
    go_wp2_with fail
    go_ret
    exact ⟨rfl, rfl⟩
theorem bquorum_any (f : Int) (w : World) : Calls Try.prog 26 #[.int .i64 f] w fun e w' => e = .returned (.int .i64 (quorumS f)) ∧ w = w' := by
  by_cases h : f < 1 ∨ 4 < f
  · rw [quorumS_out h]
    have HA := Lib.hid (ballow_out h)
    clear h
    go_enter Try.func26, Try.ntmps26
    go_wp2_with fail
    refine (HA.out _).mono ?_
    rintro e w' ⟨rfl, rfl⟩
    go_wp2_with fail
    go_ret
    exact ⟨rfl, rfl⟩
  · have h1 : 1 ≤ f := by omega
    have h2 : f ≤ 4 := by omega
    rw [quorumS_in h1 h2]
    have HA := Lib.hid (ballow_in h1 h2)
    clear h
    go_enter Try.func26, Try.ntmps26
    go_wp2_with fail
    refine (HA.out _).mono ?_
    rintro e w' ⟨rfl, rfl⟩
    go_wp2_with fail
    go_ret
    exact ⟨rfl, rfl⟩
theorem bweak_any (f : Int) (w : World) : Calls Try.prog 28 #[.int .i64 f] w fun e w' => e = .returned (.int .i64 (weakS f)) ∧ w = w' := by
  by_cases h : f < 1 ∨ 4 < f
  · rw [weakS_out h]
    have HA := Lib.hid (ballow_out h)
    clear h
    go_enter Try.func28, Try.ntmps28
    go_wp2_with fail
    refine (HA.out _).mono ?_
    rintro e w' ⟨rfl, rfl⟩
    go_wp2_with fail
    go_ret
    exact ⟨rfl, rfl⟩
  · have h1 : 1 ≤ f := by omega
    have h2 : f ≤ 4 := by omega
    rw [weakS_in h1 h2]
    have HA := Lib.hid (ballow_in h1 h2)
    clear h
    go_enter Try.func28, Try.ntmps28
    go_wp2_with fail
    refine (HA.out _).mono ?_
    rintro e w' ⟨rfl, rfl⟩
    go_wp2_with fail
    go_ret
    exact ⟨rfl, rfl⟩

set_option maxHeartbeats 1000000 in
theorem bprimary_any (f v i : Int) (w : World) : Calls Try.prog 17 #[.int .i64 f, .int .i64 v, .int .i64 i] w fun e w' => e = .returned (.int .i64 (primaryS f v i)) ∧ w = w' := by
  rcases primary_cases f v i with h | ⟨⟨h1, h2⟩, h | ⟨h3, h | ⟨h4, h | ⟨h5, h | h6⟩⟩⟩⟩
  · rw [primaryS_out (by omega)]
    have HA := Lib.hid (ballow_out h)
    clear h
    go_enter Try.func17, Try.ntmps17
    go_wp2_with fail
    refine (HA.out _).mono ?_
    rintro e w' ⟨rfl, rfl⟩
    go_wp2_with fail
    go_ret
    exact ⟨rfl, rfl⟩
  all_goals
    have HA := Lib.hid (ballow_in h1 h2)
  · rw [primaryS_out (by omega)]
    go_enter Try.func17, Try.ntmps17
    go_wp2_with fail
    refine (HA.out _).mono ?_
    rintro e w' ⟨rfl, rfl⟩
    go_wp2_with fail
    go_ret
    exact ⟨rfl, rfl⟩
  · rw [primaryS_out (by omega)]
    go_enter Try.func17, Try.ntmps17
    go_wp2_with fail
    refine (HA.out _).mono ?_
    rintro e w' ⟨rfl, rfl⟩
    go_wp2_with fail
    go_ret
    exact ⟨rfl, rfl⟩
  · rw [primaryS_out (by omega)]
    go_enter Try.func17, Try.ntmps17
    go_wp2_with fail
    refine (HA.out _).mono ?_
    rintro e w' ⟨rfl, rfl⟩
    go_wp2_with fail
    go_ret
    exact ⟨rfl, rfl⟩
  · rw [primaryS_out (by omega)]
    go_enter Try.func17, Try.ntmps17
    go_wp2_with fail
    refine (HA.out _).mono ?_
    rintro e w' ⟨rfl, rfl⟩
    go_wp2_with fail
    go_ret
    exact ⟨rfl, rfl⟩
  · rw [primaryS_in h1 h2 h3 h4 h5 h6]
    have HN := Lib.hid (bnodes_any f)
    rw [nodesS_in h1 h2] at HN
    have hp : ¬ (3 * f + 1 = 0) := by omega
    have t0 : (3 * f + 1 == 0) = false := by rw [beq_eq_false_iff_ne]; exact hp
    have t1 : decide (v < 0) = false := decide_eq_false (by omega)
    have t2 : decide (12 < v) = false := decide_eq_false (by omega)
    have t3 : decide (i < 0) = false := decide_eq_false (by omega)
    have t4 : decide (f < i) = false := decide_eq_false (by omega)
    go_enter Try.func17, Try.ntmps17
    go_wp2_with fail
    refine (HA.out _).mono ?_
    rintro e w' ⟨rfl, rfl⟩
    go_wp2_with fail
    refine (HN.out _).mono ?_
    rintro e w' ⟨rfl, rfl⟩
    go_wp2_with fail
    go_ret
    exact ⟨rfl, rfl⟩

theorem wakesB_any (w : World) : Calls Try.prog 18 #[] w fun e w' => e = .returned (.bool true) ∧ w = w' := by
  have HQ := Lib.hid (bquorum_any 1)
  have HP := Lib.hid (bprimary_any 1 3 2)
  rw [quorumS_in (by omega) (by omega)] at HQ
  rw [primaryS_out (by omega)] at HP
  go_enter Try.func18, Try.ntmps18
  go_wp2_with fail
  refine (HQ.out _).mono ?_
  rintro e w' ⟨rfl, rfl⟩
  go_wp2_with fail
  refine (HP.out _).mono ?_
  rintro e w' ⟨rfl, rfl⟩
  go_wp2_with fail
  go_ret
  exact ⟨rfl, rfl⟩
end Go.Proofs.Ytallcmknajigfaa
