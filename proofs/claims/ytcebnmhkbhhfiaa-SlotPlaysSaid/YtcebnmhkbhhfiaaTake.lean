/- The contract of code.TakeNumber. -/
import Derived.Test.YtcebnmhkbhhfiaaPlain
import Derived.Test.YtcebnmhkbhhfiaaWords
import Derived.Test.YtcebnmhkbhhfiaaScopes
import Derived.Lib.Hide
namespace Go.Proofs.Ytcebnmhkbhhfiaa
open Go.RowKit

/-- The frame of TakeNumber, its other slots whatever they are. -/
def TakeFrame (B X n nx g s : Value) (a : Act) : Prop :=
  ∃ u2 u3 u9 u10 u11 u12 u13 u14 u15 u16 u17 u18 u19 u20 u21 u22 u23 u24 u25 u26 u27 u28 u29 u30 u31 u32 u33 u34 u35 u36 u37 u38 u39 u40 u41 u42 u43 u44 u45 u46 u47 u48 u49 u50 u51 : Value, a = { tmps := #[B, X, u2, u3, n, nx, .bool false, g, s, u9, u10, u11, u12, u13, u14, u15, u16, u17, u18, u19, u20, u21, u22, u23, u24, u25, u26, u27, u28, u29, u30, u31, u32, u33, u34, u35, u36, u37, u38, u39, u40, u41, u42, u43, u44, u45, u46, u47, u48, u49, u50, u51], defers := [] }

/-- What holds at each label: 0: there is none; 1: at a group; 2: at the last group. -/
def TakeAt (B : Value) (i : Int) (zs : List Int) (l : Nat) (a : Act) : Prop :=
  ∃ (n nx g s : Int), TakeFrame B (.int .i64 i) (.int .i64 n) (.int .i64 nx) (.int .i64 g) (.int .i64 s) a ∧
    ((l = 0 ∧ takeS zs i = (0, 0, false)) ∨
     (l = 1 ∧ ∃ (k m : Nat), s = k ∧ nx = m ∧ k < 47 ∧ m < 9223372036854775807 ∧ 0 ≤ n ∧ n < 2 ^ k ∧ takeS zs i = res k n m (zs.drop m)) ∨
     (l = 2 ∧ ∃ (k m : Nat), s = k ∧ nx = m ∧ k < 40 ∧ m < 9223372036854775807 ∧ 0 ≤ n ∧ n < 2 ^ k ∧ 0 ≤ g ∧ g < 128 ∧
       takeS zs i = if (g = 0 ∧ 0 < k) ∨ 1099511627775 < n + g * 2 ^ k then (0, 0, false) else (n + g * 2 ^ k, (m : Int), true)))

/-- The labels' order. -/
def rk : Nat → Nat | 0 => 0 | 1 => 2 | _ => 1
theorem shl_bd {z : Int} {k : Nat} (h0 : 0 ≤ z) (h1 : z ≤ 127) (hk : k < 40) : 0 ≤ z * 2 ^ k ∧ z * 2 ^ k ≤ 69818988363776 := by
  have hp : (2 : Int) ^ k ≤ 2 ^ 39 := by
    have := Nat.pow_le_pow_right (n := 2) (by omega) (by omega : k ≤ 39)
    exact_mod_cast this
  have hp0 : (0 : Int) ≤ 2 ^ k := by
    have := Nat.zero_le (2 ^ k)
    exact_mod_cast this
  exact ⟨Int.mul_nonneg h0 hp0, Int.le_trans (Int.mul_le_mul h1 hp hp0 (by omega)) (by decide)⟩
theorem shl_next {z n : Int} {k : Nat} (hn : n < 2 ^ k) (h1 : z ≤ 127) : n + z * 2 ^ k < 2 ^ (k + 7) := by
  have hp0 : (0 : Int) ≤ 2 ^ k := by
    have := Nat.zero_le (2 ^ k)
    exact_mod_cast this
  have h2 : z * 2 ^ k ≤ 127 * 2 ^ k := Int.mul_le_mul_of_nonneg_right h1 hp0
  rw [Int.pow_add]
  omega
theorem pow_bd {n : Int} {k : Nat} (hn : n < 2 ^ k) (hk : k < 47) : n < 70368744177664 := by
  have hp : (2 : Int) ^ k ≤ 2 ^ 46 := by
    have := Nat.pow_le_pow_right (n := 2) (by omega) (by omega : k ≤ 46)
    exact_mod_cast this
  exact Int.lt_of_lt_of_le hn (Int.le_trans hp (by decide))

end Go.Proofs.Ytcebnmhkbhhfiaa
