/- The contracts of code.signed, code.Zig, code.Zag and the document's own zig and zag: what each returns, for every int; the world is unchanged. -/
import Derived.Test.YtcebnmhkbhhfiaaRows
import Derived.WalkKit
import Derived.WalkSpells
import Derived.WalkLawsBesides
namespace Go.Proofs.Ytcebnmhkbhhfiaa
open Go.RowKit

def inS (n : Int) : Bool := decide (-549755813888 ≤ n ∧ n < 549755813888)
def zigS (n : Int) : Int := if -549755813888 ≤ n ∧ n < 549755813888 then (if n < 0 then -2 * n - 1 else 2 * n) else 0
def zagS (n : Int) : Int := if n < 0 ∨ 1099511627776 ≤ n then 0 else if n % 2 = 1 then -((n + 1) / 2) else n / 2
theorem inS_true {n : Int} (h1 : -549755813888 ≤ n) (h2 : n < 549755813888) : inS n = true := by simp [inS, h1, h2]
theorem inS_low {n : Int} (h1 : n < -549755813888) : inS n = false := by simp [inS]; omega
theorem inS_high {n : Int} (h1 : 549755813888 ≤ n) : inS n = false := by simp [inS]; omega

end Go.Proofs.Ytcebnmhkbhhfiaa
