/- The contracts of code.Number and of the document's own Number: for a number from 0 to 2^40 - 1 its groups, in a new row; else none. -/
import Derived.Test.YtcebnmhkbhhfiaaPlain
import Derived.Test.YtcebnmhkbhhfiaaWords
namespace Go.Proofs.Ytcebnmhkbhhfiaa
open Go.RowKit

theorem Try.info5 : (Try.prog.info? 5).map (fun i => (i.zero, i.size, i.bytes)) = some (some (.int .u8 0), 1, 1) := by kernel_rfl

theorem Try.info3 : (Try.prog.info? 3).map (fun i => (i.zero, i.size, i.bytes)) = some (some (.int .i64 0), 1, 8) := by kernel_rfl

/-- What Number returns where there are bytes: a slice of the call's own that reads as the groups. -/
def NumPost (n : Nat) (w : World) (e : Ending) (w' : World) : Prop :=
  ∃ g c, e = .returned (.tuple #[.slice (some ⟨g, 0, none⟩) (enc n).length c, .bool true]) ∧
    w'.ownsRow w.heap.size 5 1 (.slice (some ⟨g, 0, none⟩) (enc n).length c) (enc n).length (u8s (enc n)) ∧ Below w.heap.size w w'
theorem NumPost.of {n : Nat} {w w' : World} {v : Value} (h : w'.ownsRow w.heap.size 5 1 v (enc n).length (u8s (enc n))) (hb : Below w.heap.size w w') :
    NumPost n w (.returned (.tuple #[v, .bool true])) w' := by
  obtain ⟨g, c, rfl, _, _⟩ := h.form (enc_pos n)
  exact ⟨g, c, rfl, h, hb⟩

end Go.Proofs.Ytcebnmhkbhhfiaa
