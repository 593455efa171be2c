/- The contracts of the document's own Take, Zig and Zag, and of code.TakeSigned. -/
import Derived.Test.YtdopgdaobpcbjaaTake
import Derived.Test.YtdopgdaobpcbjaaSignum
namespace Go.Proofs.Ytdopgdaobpcbjaa
open Go.RowKit

set_option maxHeartbeats 400000 in
theorem refzig_any (n : Int) (w : World) :
    Calls Try.prog 85 #[.int .i64 n] w fun e w' => e = .returned (.int .i64 (zigS n)) ∧ w = w' := by
  by_cases h0 : n < -549755813888
  · have e2 : zigS n = 0 := by simp only [zigS, if_neg (by omega : ¬ (-549755813888 ≤ n ∧ n < 549755813888))]
    rw [e2]
    go_enter Try.func85, Try.ntmps85
    go_wp2
    go_ret
    exact ⟨rfl, rfl⟩
  · have h1 : -549755813888 ≤ n := by omega
    by_cases h2 : n < 549755813888
    · by_cases h3 : n < 0
      · have e2 : zigS n = -2 * n - 1 := by simp [zigS, h1, h2, h3]
        rw [e2]
        go_enter Try.func85, Try.ntmps85
        go_wp2
        go_ret
        exact ⟨rfl, rfl⟩
      · have e2 : zigS n = 2 * n := by simp [zigS, h1, h2, h3]
        rw [e2]
        go_enter Try.func85, Try.ntmps85
        go_wp2
        go_ret
        exact ⟨rfl, rfl⟩
    · have e2 : zigS n = 0 := by simp only [zigS, if_neg (by omega : ¬ (-549755813888 ≤ n ∧ n < 549755813888))]
      rw [e2]
      have h2' : 549755813888 ≤ n := by omega
      go_enter Try.func85, Try.ntmps85
      go_wp2
      go_ret
      exact ⟨rfl, rfl⟩

/-- The weight of group k. -/
def pw (k : Nat) : Int := 2 ^ (7 * k)
theorem pw_next (k : Nat) : 128 * pw k = pw (k + 1) := by
  unfold pw
  rw [Nat.mul_add, Int.pow_add]
  omega
theorem pw_bd {k : Nat} (hk : k ≤ 6) : 1 ≤ pw k ∧ pw k ≤ 4398046511104 := by
  rcases (by omega : k = 0 ∨ k = 1 ∨ k = 2 ∨ k = 3 ∨ k = 4 ∨ k = 5 ∨ k = 6) with rfl | rfl | rfl | rfl | rfl | rfl | rfl <;> decide

theorem pw_mul {z : Int} {k : Nat} (h0 : 0 ≤ z) (h1 : z ≤ 127) (hk : k < 6) : 0 ≤ z * pw k ∧ z * pw k ≤ 69818988363776 :=
  shl_bd h0 h1 (by omega)
theorem pw_step {z acc : Int} {k : Nat} (ha : acc < pw k) (h1 : z ≤ 127) : acc + z * pw k < pw (k + 1) := by
  have h := shl_next (z := z) (k := 7 * k) ha h1
  exact h

end Go.Proofs.Ytdopgdaobpcbjaa
