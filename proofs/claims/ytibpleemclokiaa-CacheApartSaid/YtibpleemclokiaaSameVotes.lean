/- The contracts of keep.Same at votes, at requests. -/
import Derived.Test.YtibpleemclokiaaLists
import Derived.Laws.StructEq
import Derived.Deep.QuietTactic
import Derived.BigQuiet
import Derived.Outline
namespace Go.Proofs.Ytibpleemclokiaa
open Go.RowKit

/-- Whether two lists are the same. -/
def sameL {α : Type} [DecidableEq α] (l m : List α) : Bool := decide (l = m)
theorem takeL_next {α : Type} {l m : List α} {k : Nat} (h1 : k < l.length) (h2 : k < m.length) (h : l.take k = m.take k) (e : l[k] = m[k]) : l.take (k + 1) = m.take (k + 1) := by
  rw [List.take_succ_eq_append_getElem h1, List.take_succ_eq_append_getElem h2, h, e]
theorem sameL_far {α : Type} [DecidableEq α] {l m : List α} {k : Nat} (h1 : k < l.length) (h2 : k < m.length) (e : l[k] ≠ m[k]) : sameL l m = false := by
  unfold sameL
  rw [decide_eq_false_iff_not]
  rintro rfl
  exact e rfl
theorem sameL_end {α : Type} [DecidableEq α] {l m : List α} {k : Nat} (hk : l.length ≤ k) (h : l.take k = m.take k) (hl : l.length = m.length) : sameL l m = true := by
  unfold sameL
  rw [decide_eq_true_iff]
  rwa [List.take_of_length_le hk, List.take_of_length_le (by omega)] at h
theorem sameL_len {α : Type} [DecidableEq α] {l m : List α} (h : l.length ≠ m.length) : sameL l m = false := by
  unfold sameL
  rw [decide_eq_false_iff_not]
  rintro rfl
  exact h rfl

end Go.Proofs.Ytibpleemclokiaa
