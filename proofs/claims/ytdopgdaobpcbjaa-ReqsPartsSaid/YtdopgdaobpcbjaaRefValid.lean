/- The contract of the document's Valid. -/
import Derived.Test.YtdopgdaobpcbjaaReqMath
import Derived.Test.YtdopgdaobpcbjaaLists
namespace Go.Proofs.Ytdopgdaobpcbjaa
open Go.RowKit

def Rq.agg (r : Rq) : Value := .agg #[.int .i64 r.cl, .int .i64 r.tm, .int .i64 r.kd, .int .i64 r.ky, .int .i64 r.vl, .int .i64 r.sg]
theorem valid_no {r : Rq} {n : Int} (h : ¬ (0 ≤ r.cl ∧ r.cl < n ∧ 1 ≤ r.tm ∧ r.tm ≤ 1048576 ∧ 1 ≤ r.kd ∧ r.kd ≤ 5 ∧ 0 ≤ r.ky ∧ r.ky < 64 ∧ -2147483648 < r.vl ∧ r.vl < 2147483648 ∧ 0 ≤ r.sg ∧ r.sg < 1099511627776)) : validS r n = false := decide_eq_false (by omega)

set_option maxHeartbeats 4000000 in
set_option maxRecDepth 100000 in
theorem rvalid_any (r : Rq) (n : Int) (w : World) :
    Calls Try.prog 20 #[.agg #[.int .i64 r.cl, .int .i64 r.tm, .int .i64 r.kd, .int .i64 r.ky, .int .i64 r.vl, .int .i64 r.sg], .int .i64 n] w fun e w' => e = .returned (.bool (validS r n)) ∧ Below w.heap.size w w' := by
  go_enter Try.func20, Try.ntmps20
  go_wp2
  all_goals go_ret
  all_goals refine ⟨congrArg (fun b => Ending.returned (.bool b)) ?_, ((Below.refl _ _).alloc (Nat.le_refl _) _).alloc (by simp) _⟩
  all_goals (first | exact (decide_eq_false (by omega)).symm | exact (decide_eq_true (by omega)).symm | (rw [Bool.eq_iff_iff]; simp [validS]; omega))
end Go.Proofs.Ytdopgdaobpcbjaa
