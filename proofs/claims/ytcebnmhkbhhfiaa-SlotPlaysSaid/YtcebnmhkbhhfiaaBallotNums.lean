/- The contracts of ballot's Nodes, Quorum, Weak, Primary; the document's examples. (Over ballot as it landed at d9f4045.) -/
import Derived.Test.YtcebnmhkbhhfiaaRefBallot
namespace Go.Proofs.Ytcebnmhkbhhfiaa
open Go.RowKit

theorem ballow_in {f : Int} (h1 : 1 ≤ f) (h2 : f ≤ 4) (w : World) : Calls Try.prog 76 #[.int .i64 f] w fun e w' => e = .returned (.bool true) ∧ w = w' := by
  go_enter Try.func76, Try.ntmps76
  go_wp2
  go_ret
  exact ⟨rfl, rfl⟩
theorem ballow_out {f : Int} (h : f < 1 ∨ 4 < f) (w : World) : Calls Try.prog 76 #[.int .i64 f] w fun e w' => e = .returned (.bool false) ∧ w = w' := by
  by_cases h1 : f < 1
  · clear h
    go_enter Try.func76, Try.ntmps76
    go_wp2
    go_ret
    exact ⟨rfl, rfl⟩
  · have h1' : 1 ≤ f := by omega
    have h2' : ¬ f ≤ 4 := by omega
    clear h h1
    go_enter Try.func76, Try.ntmps76
    go_wp2
    go_ret
    exact ⟨rfl, rfl⟩
theorem bnodes_any (f : Int) (w : World) : Calls Try.prog 67 #[.int .i64 f] w fun e w' => e = .returned (.int .i64 (nodesS f)) ∧ w = w' := by
  by_cases h : f < 1 ∨ 4 < f
  · rw [nodesS_out h]
    have HA := Lib.hid (ballow_out h)
    clear h
    go_enter Try.func67, Try.ntmps67
    go_wp2_with fail
    refine (HA.out _).mono ?_
    rintro e w' ⟨rfl, rfl⟩
    go_wp2_with fail
    go_ret
    exact ⟨rfl, rfl⟩
  · have h1 : 1 ≤ f := by omega
    have h2 : f ≤ 4 := by omega
    rw [nodesS_in h1 h2]
    have HA := Lib.hid (ballow_in h1 h2)
    clear h
    go_enter Try.func67, Try.ntmps67
    go_wp2_with fail
    refine (HA.out _).mono ?_
    rintro e w' ⟨rfl, rfl⟩
    go_wp2_with fail
    go_ret
    exact ⟨rfl, rfl⟩
theorem bquorum_any (f : Int) (w : World) : Calls Try.prog 78 #[.int .i64 f] w fun e w' => e = .returned (.int .i64 (quorumS f)) ∧ w = w' := by
  by_cases h : f < 1 ∨ 4 < f
  · rw [quorumS_out h]
    have HA := Lib.hid (ballow_out h)
    clear h
    go_enter Try.func78, Try.ntmps78
    go_wp2_with fail
    refine (HA.out _).mono ?_
    rintro e w' ⟨rfl, rfl⟩
    go_wp2_with fail
    go_ret
    exact ⟨rfl, rfl⟩
  · have h1 : 1 ≤ f := by omega
    have h2 : f ≤ 4 := by omega
    rw [quorumS_in h1 h2]
    have HA := Lib.hid (ballow_in h1 h2)
    clear h
    go_enter Try.func78, Try.ntmps78
    go_wp2_with fail
    refine (HA.out _).mono ?_
    rintro e w' ⟨rfl, rfl⟩
    go_wp2_with fail
    go_ret
    exact ⟨rfl, rfl⟩
end Go.Proofs.Ytcebnmhkbhhfiaa
