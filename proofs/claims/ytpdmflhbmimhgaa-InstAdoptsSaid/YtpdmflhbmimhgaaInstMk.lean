/- Instances told by marks: which slots are committed. -/
import Derived.Test.YtpdmflhbmimhgaaInstD
import Derived.Test.YtpdmflhbmimhgaaRow4
namespace Go.Proofs.Ytpdmflhbmimhgaa
open Go.RowKit
set_option linter.unusedSimpArgs false

/-- The places of the marked seqs are as A says, the others as B. -/
def mkL (A B : Nat → Px) (bs : List Bool) : List Px := (List.range 16).map fun i => if bs[i + 1]? = some true then A (i + 1) else B (i + 1)
theorem mkL_len (A B : Nat → Px) (bs : List Bool) : (mkL A B bs).length = 16 := by simp [mkL]
theorem mkL_at {A B : Nat → Px} {bs : List Bool} {i : Nat} (h : i < 16) : (mkL A B bs)[i]? = some (if bs[i + 1]? = some true then A (i + 1) else B (i + 1)) := by
  unfold mkL
  rw [List.getElem?_map, List.getElem?_range h]
  rfl
theorem mkL_set {A B : Nat → Px} {bs : List Bool} {k : Nat} (hk : k < 16) (hb : bs.length = 18) : (mkL A B bs).set k (A (k + 1)) = mkL A B (bs.set (k + 1) true) := by
  apply List.ext_getElem?
  intro i
  rw [List.getElem?_set]
  by_cases hi : i < 16
  · rw [mkL_at hi, mkL_at hi]
    by_cases hik : k = i
    · subst hik
      rw [if_pos rfl, if_pos (by rw [mkL_len]; exact hk), List.getElem?_set_self (show k + 1 < bs.length by omega), if_pos rfl]
    · rw [if_neg hik, List.getElem?_set_ne (show k + 1 ≠ i + 1 by omega)]
  · rw [if_neg (by omega), List.getElem?_eq_none (by rw [mkL_len]; omega), List.getElem?_eq_none (by rw [mkL_len]; omega)]
theorem set_back {α : Type} {l : List α} {k : Nat} {p : α} (h : l[k]? = some p) : l.set k p = l := by
  apply List.ext_getElem?
  intro i
  rw [List.getElem?_set]
  split
  · rename_i hik
    subst hik
    rw [if_pos (List.getElem?_eq_some_iff.1 h).1, h]
  · rfl
theorem set_twice {α : Type} (l : List α) (k : Nat) (p q : α) : (l.set k p).set k q = l.set k q := by simp
/-- So many stand without a gap. -/
theorem doneL_count {L : List Px} {n : Nat} (h1 : ∀ i, i < n → ∃ p, L[i]? = some p ∧ p.co.isSome = true) (h2 : n = L.length ∨ ∃ p, L[n]? = some p ∧ p.co.isSome = false) : doneL L = n := by
  have h3 : ∀ m, m ≤ n → m ≤ doneL L := by
    intro m
    induction m with
    | zero => intro _; exact Nat.zero_le _
    | succ m ih =>
      intro hm
      obtain ⟨p, hp, hc⟩ := h1 m (by omega)
      exact (doneL_step (ih (by omega)) hp).1 hc
  have h4 := h3 n (Nat.le_refl _)
  rcases h2 with rfl | ⟨p, hp, hc⟩
  · exact Nat.le_antisymm (doneL_le L) h4
  · exact ((doneL_step h4 hp).2 hc).symm
theorem mkL_done {A B : Nat → Px} (hA : ∀ i, (A i).co.isSome = true) (hB : ∀ i, (B i).co.isSome = false) {bs : List Bool} {n : Nat} (h1 : ∀ i, i < n → bs[i + 1]? = some true) (hn : n ≤ 16) (h2 : bs[n + 1]? = some false) : doneL (mkL A B bs) = n := by
  refine doneL_count (fun i hi => ⟨A (i + 1), ?_, hA _⟩) ?_
  · rw [mkL_at (by omega), if_pos (h1 i hi)]
  · rcases Nat.lt_or_ge n 16 with h | h
    · refine Or.inr ⟨B (n + 1), ?_, hB _⟩
      rw [mkL_at h, if_neg (by rw [h2]; simp)]
    · exact Or.inl (by rw [mkL_len]; omega)
theorem bool_cell18 {w : World} {g k : Nat} {bs : List Bool} {b : Bool} (h : Blk w g 37 (boolCells bs)) (hb : bs[k]? = some b) : w.cell? ⟨g, k, none⟩ = some (.bool b) := by rw [h.cell, boolCells_get hb]
def no18 : List Bool := List.replicate 18 false
theorem bool_some {bs : List Bool} {k : Nat} (h : k < bs.length) : ∃ b, bs[k]? = some b := ⟨_, List.getElem?_eq_getElem h⟩
end Go.Proofs.Ytpdmflhbmimhgaa
