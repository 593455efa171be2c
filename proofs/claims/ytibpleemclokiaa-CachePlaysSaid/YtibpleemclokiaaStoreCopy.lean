/- The document's store as a value: read, copied, compared. -/
import Derived.Test.YtibpleemclokiaaRefStore
import Derived.Laws.StructEq
import Derived.ChangeKeysEq
import Derived.Laws.Tables
import Derived.Deep.WholeRow
import Derived.Deep.QuietTactic
import Derived.BigQuiet
namespace Go.Proofs.Ytibpleemclokiaa
open Go.RowKit

theorem stCells_size (V : Kv) : (stCells V).size = 128 := by simp [stCells, valCells, hasCells]
theorem stCells_one (V : Kv) : (stCells V).all (·.oneCell') = true := by
  rw [Array.all_eq_true_iff_forall_mem]
  intro u hu
  simp [stCells, valCells, hasCells] at hu
  rcases hu with ⟨_, _, rfl⟩ | ⟨_, _, rfl⟩ <;> rfl
/-- The operations load and store of a whole value. -/
theorem wp_load_whole {P : Program} {o : Oper} {a : Act} {w : World} {K : Act → World → Prop} {Q : Exit → Act → World → Prop} (ty : TypeId) (x : Operand) (ho : o.op = .load ty x)
    (g : Nat) (cells : Array Value) (hx : a.eval x = .pointer (some ⟨g, 0, none⟩)) (hl : (loadVar ty ⟨g, 0, none⟩).run P w = .ok (.agg cells) w) (h : K (a.put o.dst (.agg cells)) w) : o.wp P a w K Q := by
  unfold Oper.wp execOp
  simp only [ho, hx, Instr.loadAt, Instr.sureAddr, Sem.run_bind, Sem.run_pure, Result.andThen_ok, hl]
  exact h
theorem wp_store_whole {P : Program} {o : Oper} {a : Act} {w w' : World} {K : Act → World → Prop} {Q : Exit → Act → World → Prop} (ty : TypeId) (x y : Operand) (ho : o.op = .store ty x y)
    (g : Nat) (cells : Array Value) (hx : a.eval x = .pointer (some ⟨g, 0, none⟩)) (hy : a.eval y = .agg cells) (hs : (storeVar ty ⟨g, 0, none⟩ (.agg cells)).run P w = .ok () w') (h : K (a.put o.dst undef) w') : o.wp P a w K Q := by
  unfold Oper.wp execOp
  simp only [ho, hx, hy, Instr.storeAt, Instr.sureAddr, Sem.run_bind, Sem.run_pure, Result.andThen_ok, hs]
  exact h
theorem quiet_load_whole {P : Program} {o : Oper} {a : Act} {C : World → Prop} {K : Act → Prop} (ty : TypeId) (x : Operand) (ho : o.op = .load ty x)
    (g : Nat) (cells : Array Value) (hx : a.eval x = .pointer (some ⟨g, 0, none⟩)) (hl : ∀ w, C w → (loadVar ty ⟨g, 0, none⟩).run P w = .ok (.agg cells) w) (h : K (a.put o.dst (.agg cells))) : o.quiet P a C K :=
  ⟨.agg cells, fun w hw => by
    have h1 : (execOp a.eval o).run P w = .ok (.value (.agg cells)) w := by
      unfold execOp
      simp only [ho, hx, Instr.loadAt, Instr.sureAddr, Sem.run_bind, Sem.run_pure, Result.andThen_ok, hl w hw]
    unfold Oper.quietAt
    rw [h1]
    exact ⟨rfl, rfl⟩, h⟩
theorem eq_ints (xs ys : Array Value) (f g : Nat → Int) (d : Nat) (w : World) : ∀ is : List Nat, (∀ i ∈ is, xs[i]? = some (.int .i64 (f i)) ∧ ys[i]? = some (.int .i64 (g i))) →
    (Op.eqItems (d + 1) 3 1 xs ys is).run Try.prog w = .ok (is.all fun i => decide (f i = g i)) w
  | [], _ => by simp [Op.eqItems]
  | i :: is, h => by
    obtain ⟨h1, h2⟩ := h i (by simp)
    have ih := eq_ints xs ys f g d w is (fun j hj => h j (by simp [hj]))
    by_cases e : f i = g i
    · simp [Op.eqItems, part, go_sem, h1, h2, e, ih]
    · simp [Op.eqItems, part, go_sem, h1, h2, e]
theorem eq_bools (xs ys : Array Value) (f g : Nat → Bool) (d : Nat) (w : World) : ∀ is : List Nat, (∀ i ∈ is, xs[i]? = some (.bool (f i)) ∧ ys[i]? = some (.bool (g i))) →
    (Op.eqItems (d + 1) 4 1 xs ys is).run Try.prog w = .ok (is.all fun i => decide (f i = g i)) w
  | [], _ => by simp [Op.eqItems]
  | i :: is, h => by
    obtain ⟨h1, h2⟩ := h i (by simp)
    have ih := eq_bools xs ys f g d w is (fun j hj => h j (by simp [hj]))
    by_cases e : f i = g i
    · simp [Op.eqItems, part, go_sem, h1, h2, e, ih]
    · simp [Op.eqItems, part, go_sem, h1, h2, e]
theorem vals_at (V : Kv) {i : Nat} (h : i < 64) : ((stCells V).extract 0 64)[i]? = some (.int .i64 (V.val i)) := by
  rw [Array.getElem?_extract, if_pos (by rw [stCells_size]; omega), Nat.zero_add]
  exact stCells_val V h
theorem has_at (V : Kv) {i : Nat} (h : i < 64) : ((stCells V).extract 64 128)[i]? = some (.bool (V i).isSome) := by
  rw [Array.getElem?_extract, if_pos (by rw [stCells_size]; omega)]
  exact stCells_has V h
theorem kv_eq {V U : Kv} (hV : V.Ok) (hU : U.Ok) : ((List.range 64).all fun i => decide (V.val (i : Int) = U.val i)) = true ∧ ((List.range 64).all fun i => decide ((V (i : Int)).isSome = (U i).isSome)) = true ↔ V = U := by
  constructor
  · rintro ⟨h1, h2⟩
    rw [List.all_eq_true] at h1 h2
    funext q
    by_cases hq : 0 ≤ q ∧ q < 64
    · obtain ⟨n, rfl⟩ := Int.eq_ofNat_of_zero_le hq.1
      have e1 := of_decide_eq_true (h1 n (List.mem_range.2 (by omega)))
      have e2 := of_decide_eq_true (h2 n (List.mem_range.2 (by omega)))
      unfold Kv.val at e1
      cases a : V (n : Int) with
      | none =>
        cases b : U (n : Int) with
        | none => rfl
        | some u => rw [a, b] at e2; cases e2
      | some v =>
        cases b : U (n : Int) with
        | none => rw [a, b] at e2; cases e2
        | some u => rw [a, b] at e1; rw [show v = u from e1]
    · have a : V q = none := by cases e : V q with
        | none => rfl
        | some u => exact absurd (hV q u e).1 hq
      have b : U q = none := by cases e : U q with
        | none => rfl
        | some u => exact absurd (hU q u e).1 hq
      rw [a, b]
  · rintro rfl
    simp
end Go.Proofs.Ytibpleemclokiaa
