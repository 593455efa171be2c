/- The contract of the document's Valid. -/
import Derived.Test.YtcebnmhkbhhfiaaReqMath
import Derived.Test.YtcebnmhkbhhfiaaLists
namespace Go.Proofs.Ytcebnmhkbhhfiaa
open Go.RowKit

def Rq.agg (r : Rq) : Value := .agg #[.int .i64 r.cl, .int .i64 r.tm, .int .i64 r.kd, .int .i64 r.ky, .int .i64 r.vl, .int .i64 r.sg]
theorem valid_no {r : Rq} {n : Int} (h : ¬ (0 ≤ r.cl ∧ r.cl < n ∧ 1 ≤ r.tm ∧ r.tm ≤ 1048576 ∧ 1 ≤ r.kd ∧ r.kd ≤ 5 ∧ 0 ≤ r.ky ∧ r.ky < 64 ∧ -2147483648 < r.vl ∧ r.vl < 2147483648 ∧ 0 ≤ r.sg ∧ r.sg < 1099511627776)) : validS r n = false := decide_eq_false (by omega)

end Go.Proofs.Ytcebnmhkbhhfiaa
