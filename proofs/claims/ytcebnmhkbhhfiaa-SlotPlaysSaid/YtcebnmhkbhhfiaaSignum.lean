/- The contract of code.Signed, and of the document's zig and zag. -/
import Derived.Test.YtcebnmhkbhhfiaaNum
import Derived.Test.YtcebnmhkbhhfiaaSigns
import Derived.Lib.Hide
namespace Go.Proofs.Ytcebnmhkbhhfiaa
open Go.RowKit

theorem zigS_in {n : Int} (h1 : -549755813888 ≤ n) (h2 : n < 549755813888) : 0 ≤ zigS n ∧ zigS n < 1099511627776 := by
  unfold zigS; rw [if_pos ⟨h1, h2⟩]; split <;> omega
theorem zagS_zig {n : Int} (h1 : -549755813888 ≤ n) (h2 : n < 549755813888) : zagS (zigS n) = n := by
  unfold zigS; rw [if_pos ⟨h1, h2⟩]; unfold zagS
  by_cases h : n < 0
  · rw [if_pos h, if_neg (by omega), if_pos (by omega)]; omega
  · rw [if_neg h, if_neg (by omega), if_neg (by omega)]; omega
theorem zigS_zag {n : Int} (h1 : 0 ≤ n) (h2 : n < 1099511627776) : zigS (zagS n) = n := by
  unfold zagS; rw [if_neg (by omega)]; unfold zigS
  by_cases h : n % 2 = 1
  · rw [if_pos h, if_pos (by omega), if_pos (by omega)]; omega
  · rw [if_neg h, if_pos (by omega), if_neg (by omega)]; omega

end Go.Proofs.Ytcebnmhkbhhfiaa
