/- The contracts of the document's own notary: Seal, Copy. -/
import Derived.Test.YtpopchigboacaaaRefNot
import Derived.StillTailTactics
namespace Go.Proofs.Ytpopchigboacaaa
open Go.RowKit Go.Maps

theorem info_int : (Try.prog.info? 3).map (fun i => (i.zero, i.size, i.bytes)) = some (some (.int .i64 0), 1, 8) := by kernel_rfl
theorem info_str : (Try.prog.info? 9).map (fun i => (i.zero, i.size, i.bytes)) = some (some (.string ByteArray.empty), 1, 16) := by kernel_rfl
theorem parties_app (l : List Deed) (d : Deed) : parties (l ++ [d]) = parties l ++ [.int .i64 d.1] := by simp [parties]
theorem texts_app (l : List Deed) (d : Deed) : texts (l ++ [d]) = texts l ++ [.string d.2] := by simp [texts]
theorem most1 {n : Nat} (h : n ≤ 1000000) : n + 1 ≤ maxLen := by unfold maxLen; omega
theorem most2 {n b : Nat} (h : n ≤ 1000000) (hb : b ≤ 100) : (n + 1) * b ≤ 140737488355328 :=
  Nat.le_trans (Nat.mul_le_mul (show n + 1 ≤ 1000001 by omega) hb) (by omega)
theorem own_kept0 {w w' : World} {base n s : Nat} {e : TypeId} {v : Value} {xs : List Value} (h : w.ownsRow base e s v n xs) (hg : w.grownBy w' none) : w'.ownsRow base e s v n xs :=
  h.kept hg (by cases hv : v.ownBlock <;> simp)
theorem own_low {w : World} {b b' n s : Nat} {e : TypeId} {v : Value} {xs : List Value} (h : w.ownsRow b e s v n xs) (hb : b' ≤ b) : w.ownsRow b' e s v n xs := by
  refine ⟨h.1, ?_⟩
  rcases h.2 with h2 | ⟨g, cap, cur, hv, hg, r⟩
  · exact Or.inl h2
  · exact Or.inr ⟨g, cap, cur, hv, Nat.le_trans hb hg, r⟩
theorem most0 {n : Nat} (h : n ≤ 1000000) : 0 + n ≤ maxLen := by unfold maxLen; omega
theorem most3 {n b : Nat} (h : n ≤ 1000000) (hb : b ≤ 100) : (0 + n) * b ≤ 140737488355328 :=
  Nat.le_trans (Nat.mul_le_mul (show 0 + n ≤ 1000000 by omega) hb) (by omega)
theorem below_grown0 {w w' : World} (hg : w.grownBy w' none) : Below w.heap.size w w' := (Below.refl _ w).grown hg (Nat.le_refl _) (fun k hk => by cases hk)
end Go.Proofs.Ytpopchigboacaaa
