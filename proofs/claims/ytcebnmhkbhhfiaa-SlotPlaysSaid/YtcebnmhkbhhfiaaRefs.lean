/- The contracts of the document's own Take, Zig and Zag, and of code.TakeSigned. -/
import Derived.Test.YtcebnmhkbhhfiaaTake
import Derived.Test.YtcebnmhkbhhfiaaSignum
namespace Go.Proofs.Ytcebnmhkbhhfiaa
open Go.RowKit

/-- The weight of group k. -/
def pw (k : Nat) : Int := 2 ^ (7 * k)
theorem pw_next (k : Nat) : 128 * pw k = pw (k + 1) := by
  unfold pw
  rw [Nat.mul_add, Int.pow_add]
  omega
theorem pw_bd {k : Nat} (hk : k ≤ 6) : 1 ≤ pw k ∧ pw k ≤ 4398046511104 := by
  rcases (by omega : k = 0 ∨ k = 1 ∨ k = 2 ∨ k = 3 ∨ k = 4 ∨ k = 5 ∨ k = 6) with rfl | rfl | rfl | rfl | rfl | rfl | rfl <;> decide

theorem pw_mul {z : Int} {k : Nat} (h0 : 0 ≤ z) (h1 : z ≤ 127) (hk : k < 6) : 0 ≤ z * pw k ∧ z * pw k ≤ 69818988363776 :=
  shl_bd h0 h1 (by omega)
theorem pw_step {z acc : Int} {k : Nat} (ha : acc < pw k) (h1 : z ≤ 127) : acc + z * pw k < pw (k + 1) := by
  have h := shl_next (z := z) (k := 7 * k) ha h1
  exact h

end Go.Proofs.Ytcebnmhkbhhfiaa
