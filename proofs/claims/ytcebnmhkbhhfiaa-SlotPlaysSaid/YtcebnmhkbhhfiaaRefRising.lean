/- The document's own rising rows. -/
import Derived.Test.YtcebnmhkbhhfiaaRefBallot
namespace Go.Proofs.Ytcebnmhkbhhfiaa
open Go.RowKit

/-- Nodes that rise above a last one, below N. -/
def risesF (N : Int) : Int → List Vt → Bool
  | _, [] => true
  | last, v :: l => decide (last < v.nd ∧ v.nd < N) && risesF N v.nd l
def risingS (l : List Vt) (f : Int) : Bool := decide ((1 ≤ f ∧ f ≤ 4) ∧ (l.length : Int) = 2 * f + 1) && risesF (3 * f + 1) (-1) l
theorem rises_no {N last : Int} {v : Vt} {l r : List Vt} {k : Nat} (hd : l.drop k = v :: r) (h : ¬ (last < v.nd ∧ v.nd < N)) : risesF N last (l.drop k) = false := by
  rw [hd]; unfold risesF; rw [decide_eq_false h]; rfl
theorem rises_yes {N last : Int} {v : Vt} {l r : List Vt} {k : Nat} (hd : l.drop k = v :: r) (hr : l.drop (k + 1) = r) (h : last < v.nd ∧ v.nd < N) : risesF N last (l.drop k) = risesF N v.nd (l.drop (k + 1)) := by
  rw [hd, hr]
  show (decide (last < v.nd ∧ v.nd < N) && risesF N v.nd r) = _
  rw [decide_eq_true h]; rfl
theorem rising_out {l : List Vt} {f : Int} (h : f < 1 ∨ 4 < f ∨ (l.length : Int) ≠ 2 * f + 1) : risingS l f = false := by
  unfold risingS; rw [decide_eq_false (by omega)]; rfl
theorem rising_in {l : List Vt} {f : Int} (h1 : 1 ≤ f) (h2 : f ≤ 4) (h : (l.length : Int) = 2 * f + 1) : risingS l f = risesF (3 * f + 1) (-1) l := by
  unfold risingS; rw [decide_eq_true ⟨⟨h1, h2⟩, h⟩]; rfl

end Go.Proofs.Ytcebnmhkbhhfiaa
