/- The contracts of the document's Same, Has, Rises at requests. -/
import Derived.Test.YtbpefdnlldpjiaaRefComp
import Derived.Test.YtbpefdnlldpjiaaSameVotes
import Derived.StillTailTactics
import Derived.IntWalk
namespace Go.Proofs.Ytbpefdnlldpjiaa
open Go.RowKit

theorem eql_req {x y : Rq} {r : Bool} (h : decide (x = y) = r) (w : World) : (binOp .eql 25 (.agg #[.int .i64 x.cl, .int .i64 x.tm, .int .i64 x.kd, .int .i64 x.ky, .int .i64 x.vl, .int .i64 x.sg]) (.agg #[.int .i64 y.cl, .int .i64 y.tm, .int .i64 y.kd, .int .i64 y.ky, .int .i64 y.vl, .int .i64 y.sg])).run Try.prog w = .ok (.bool r) w := by
  rw [run_eql_struct, equal_req x y 9997 w, ← h]
  rfl
def hasB (l : List Rq) (r : Rq) : Bool := decide (r ∈ l)
theorem has_yes {l : List Rq} {r : Rq} {k : Nat} (h : k < l.length) (e : l[k] = r) : hasB l r = true := decide_eq_true (e ▸ List.getElem_mem h)
theorem has_next {l : List Rq} {r : Rq} {k : Nat} (h : k < l.length) (e : l[k] ≠ r) (hn : r ∉ l.take k) : r ∉ l.take (k + 1) := by
  rw [List.take_succ_eq_append_getElem h]
  intro hm
  rcases List.mem_append.1 hm with hm | hm
  · exact hn hm
  · exact e (List.mem_singleton.1 hm).symm
theorem has_no {l : List Rq} {r : Rq} {k : Nat} (h : l.length ≤ k) (hn : r ∉ l.take k) : hasB l r = false := by
  rw [List.take_of_length_le h] at hn
  exact decide_eq_false hn
structure RiR (w : World) (zs : List Rq) (k : Nat) (wr : World) : Prop where
  low : Below w.heap.size w wr
  is : risesR zs = risesR (zs.drop (k - 1))
end Go.Proofs.Ytbpefdnlldpjiaa
