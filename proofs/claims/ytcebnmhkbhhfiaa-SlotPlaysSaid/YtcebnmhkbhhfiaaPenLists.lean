/- The contracts of the document's own pen: requests, batches, votes, certificates, parts. -/
import Derived.Test.YtcebnmhkbhhfiaaPen
import Derived.Test.YtcebnmhkbhhfiaaPutCerts
namespace Go.Proofs.Ytcebnmhkbhhfiaa
open Go.RowKit

theorem listToks_ge {α : Type} {f : α → List Tok} (hf : ∀ x, 1 ≤ (f x).length) (l : List α) : l.length ≤ (listToks f l).length := by
  have h : l.length ≤ (l.flatMap f).length := by
    induction l with
    | nil => simp
    | cons x l ih =>
      have := hf x
      rw [List.flatMap_cons, List.length_append, List.length_cons]
      omega
  simp only [listToks, List.length_cons]
  omega
end Go.Proofs.Ytcebnmhkbhhfiaa
