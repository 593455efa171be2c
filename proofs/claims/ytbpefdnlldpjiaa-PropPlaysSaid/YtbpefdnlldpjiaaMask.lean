/- A row of 13 marks as a number: its bits, and how many they are. Nothing of the program. -/
import Derived.Test.YtbpefdnlldpjiaaRow4
import Derived.Lib.BitFns
namespace Go.Proofs.Ytbpefdnlldpjiaa

def maskS : List Bool → Nat
  | [] => 0
  | b :: l => (if b then 1 else 0) + 2 * maskS l
theorem mask_cons (b : Bool) (l : List Bool) : maskS (b :: l) = (if b then 1 else 0) + 2 * maskS l := rfl
theorem mask_lt : ∀ l : List Bool, maskS l < 2 ^ l.length
  | [] => by simp [maskS]
  | b :: l => by
    have := mask_lt l
    rw [List.length_cons, Nat.pow_succ]
    unfold maskS
    split <;> omega
theorem mask_bit : ∀ (l : List Bool) (k : Nat), (maskS l).testBit k = (l[k]? == some true)
  | [], k => by simp [maskS]
  | b :: l, 0 => by
    rw [Nat.testBit_zero]
    unfold maskS
    cases b <;> simp <;> omega
  | b :: l, k + 1 => by
    rw [Nat.testBit_succ]
    have : maskS (b :: l) / 2 = maskS l := by
      rw [mask_cons]
      split <;> omega
    rw [this, mask_bit l k]
    simp
theorem mask_and {l : List Bool} {k : Nat} {b : Bool} (h : l[k]? = some b) : maskS l &&& 2 ^ k = if b then 2 ^ k else 0 := by
  have hb := mask_bit l k
  rw [h] at hb
  apply Nat.eq_of_testBit_eq
  intro i
  rw [Nat.testBit_and, Nat.testBit_two_pow]
  by_cases hi : k = i
  · subst hi
    rw [hb]
    cases b <;> simp
  · cases b <;> simp [hi]
theorem mask_or {l : List Bool} {k : Nat} (h : k < l.length) : maskS l ||| 2 ^ k = maskS (l.set k true) := by
  apply Nat.eq_of_testBit_eq
  intro i
  rw [Nat.testBit_or, Nat.testBit_two_pow, mask_bit, mask_bit]
  by_cases hi : k = i
  · subst hi
    rw [List.getElem?_set_self h]
    simp
  · rw [List.getElem?_set_ne hi]
    simp [hi]
theorem mask_app : ∀ l m : List Bool, maskS (l ++ m) = maskS l + 2 ^ l.length * maskS m
  | [], m => by simp [maskS]
  | b :: l, m => by
    have := mask_app l m
    simp only [List.cons_append, maskS, this, List.length_cons, Nat.pow_succ]
    rw [Nat.mul_add, ← Nat.mul_assoc, Nat.mul_comm 2 (2 ^ l.length)]
    omega
theorem pop_mask : ∀ (l : List Bool) (n : Nat), l.length ≤ n → Lib.popAux n (maskS l) = cnt l
  | [], n, _ => by
    have : ∀ n, Lib.popAux n 0 = 0 := by
      intro n
      induction n with
      | zero => rfl
      | succ n ih => simp [Lib.popAux, ih]
    simp [maskS, cnt, this]
  | b :: l, 0, h => by simp at h
  | b :: l, n + 1, h => by
    have := pop_mask l n (by simp at h; omega)
    have h1 : maskS (b :: l) / 2 = maskS l := by rw [mask_cons]; split <;> omega
    have h2 : maskS (b :: l) % 2 = if b then 1 else 0 := by rw [mask_cons]; split <;> omega
    unfold Lib.popAux
    rw [h1, h2, this]
    rfl
theorem mask_ones {bs : List Bool} (hl : bs.length = 13) : Lib.onesCount (maskS bs / 256) + Lib.onesCount (maskS bs % 256) = cnt bs := by
  obtain ⟨l, m, rfl, h8⟩ : ∃ l m, l ++ m = bs ∧ l.length = 8 := ⟨bs.take 8, bs.drop 8, List.take_append_drop _ _, by rw [List.length_take]; omega⟩
  have hlt := mask_lt l
  rw [h8] at hlt
  have h1 : maskS (l ++ m) = maskS l + 256 * maskS m := by rw [mask_app, h8]
  have h2 : maskS (l ++ m) / 256 = maskS m := by rw [h1]; omega
  have h3 : maskS (l ++ m) % 256 = maskS l := by rw [h1]; omega
  rw [List.length_append] at hl
  rw [h2, h3, cnt_app]
  unfold Lib.onesCount
  rw [pop_mask m 64 (by omega), pop_mask l 64 (by omega)]
  omega
theorem mask_13 {bs : List Bool} (hl : bs.length = 13) : maskS bs < 8192 := by
  have := mask_lt bs
  rw [hl] at this
  exact this
end Go.Proofs.Ytbpefdnlldpjiaa
