/- The document's own numbers of nodes, its primary, its rising rows; the law's own row of votes. -/
import Derived.Test.YtcebnmhkbhhfiaaVotes
import Derived.Test.YtcebnmhkbhhfiaaWithin
import Derived.Lib.Hide
import Derived.Deep.QuietTactic
import Derived.BigQuiet
namespace Go.Proofs.Ytcebnmhkbhhfiaa
open Go.RowKit

def nodesS (f : Int) : Int := if 1 ≤ f ∧ f ≤ 4 then 3 * f + 1 else 0
def quorumS (f : Int) : Int := if 1 ≤ f ∧ f ≤ 4 then 2 * f + 1 else 0
def weakS (f : Int) : Int := if 1 ≤ f ∧ f ≤ 4 then f + 1 else 0
def primaryS (f v i : Int) : Int := if (1 ≤ f ∧ f ≤ 4) ∧ 0 ≤ v ∧ v ≤ 12 ∧ 0 ≤ i ∧ i ≤ f then (v + i) % (3 * f + 1) else -1
theorem nodesS_in {f : Int} (h1 : 1 ≤ f) (h2 : f ≤ 4) : nodesS f = 3 * f + 1 := if_pos ⟨h1, h2⟩
theorem quorumS_in {f : Int} (h1 : 1 ≤ f) (h2 : f ≤ 4) : quorumS f = 2 * f + 1 := if_pos ⟨h1, h2⟩
theorem weakS_in {f : Int} (h1 : 1 ≤ f) (h2 : f ≤ 4) : weakS f = f + 1 := if_pos ⟨h1, h2⟩
theorem nodesS_out {f : Int} (h : f < 1 ∨ 4 < f) : nodesS f = 0 := if_neg (by omega)
theorem quorumS_out {f : Int} (h : f < 1 ∨ 4 < f) : quorumS f = 0 := if_neg (by omega)
theorem weakS_out {f : Int} (h : f < 1 ∨ 4 < f) : weakS f = 0 := if_neg (by omega)
theorem primaryS_in {f v i : Int} (h1 : 1 ≤ f) (h2 : f ≤ 4) (h3 : 0 ≤ v) (h4 : v ≤ 12) (h5 : 0 ≤ i) (h6 : i ≤ f) : primaryS f v i = (v + i) % (3 * f + 1) := if_pos ⟨⟨h1, h2⟩, h3, h4, h5, h6⟩
theorem primaryS_out {f v i : Int} (h : f < 1 ∨ 4 < f ∨ v < 0 ∨ 12 < v ∨ i < 0 ∨ f < i) : primaryS f v i = -1 := if_neg (by omega)

theorem rnodes_any (f : Int) (w : World) : Calls Try.prog 29 #[.int .i64 f] w fun e w' => e = .returned (.int .i64 (nodesS f)) ∧ w = w' := by
  by_cases h1 : f < 1
  · rw [nodesS_out (Or.inl h1)]
    go_enter Try.func29, Try.ntmps29
    go_wp2
    go_ret
    exact ⟨rfl, rfl⟩
  · have h1' : 1 ≤ f := by omega
    by_cases h2 : 4 < f
    · rw [nodesS_out (Or.inr h2)]
      go_enter Try.func29, Try.ntmps29
      go_wp2
      go_ret
      exact ⟨rfl, rfl⟩
    · have h2' : f ≤ 4 := by omega
      rw [nodesS_in h1' h2']
      go_enter Try.func29, Try.ntmps29
      go_wp2
      go_ret
      exact ⟨rfl, rfl⟩
theorem rquorum_any (f : Int) (w : World) : Calls Try.prog 35 #[.int .i64 f] w fun e w' => e = .returned (.int .i64 (quorumS f)) ∧ w = w' := by
  by_cases h1 : f < 1
  · rw [quorumS_out (Or.inl h1)]
    go_enter Try.func35, Try.ntmps35
    go_wp2
    go_ret
    exact ⟨rfl, rfl⟩
  · have h1' : 1 ≤ f := by omega
    by_cases h2 : 4 < f
    · rw [quorumS_out (Or.inr h2)]
      go_enter Try.func35, Try.ntmps35
      go_wp2
      go_ret
      exact ⟨rfl, rfl⟩
    · have h2' : f ≤ 4 := by omega
      rw [quorumS_in h1' h2']
      go_enter Try.func35, Try.ntmps35
      go_wp2
      go_ret
      exact ⟨rfl, rfl⟩
/-- The cases of a primary. -/
theorem primary_cases (f v i : Int) : (f < 1 ∨ 4 < f) ∨ ((1 ≤ f ∧ f ≤ 4) ∧ (v < 0 ∨ (0 ≤ v ∧ (12 < v ∨ (v ≤ 12 ∧ (i < 0 ∨ (0 ≤ i ∧ (f < i ∨ i ≤ f)))))))) := by omega
end Go.Proofs.Ytcebnmhkbhhfiaa
