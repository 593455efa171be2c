/- The document's store as a value: read, copied, compared. -/
import Derived.Test.YtpjcedilkahpiaaRefStore
import Derived.Laws.StructEq
import Derived.ChangeKeysEq
import Derived.Laws.Tables
import Derived.Deep.WholeRow
import Derived.Deep.QuietTactic
import Derived.BigQuiet
namespace Go.Proofs.Ytpjcedilkahpiaa
open Go.RowKit

theorem stCells_size (V : Kv) : (stCells V).size = 128 := by simp [stCells, valCells, hasCells]
theorem rinfo_size (V : Kv) : (Try.prog.info? 56).map (·.size) = some (stCells V).size := by
  rw [stCells_size]
  kernel_rfl
theorem stCells_one (V : Kv) : (stCells V).all (·.oneCell') = true := by
  rw [Array.all_eq_true_iff_forall_mem]
  intro u hu
  simp [stCells, valCells, hasCells] at hu
  rcases hu with ⟨_, _, rfl⟩ | ⟨_, _, rfl⟩ <;> rfl
theorem rload {w : World} {rb : Nat} {V : Kv} (h : Rs w rb V) : (loadVar 56 ⟨rb, 0, none⟩).run Try.prog w = .ok (.agg (stCells V)) w :=
  run_loadVar_row w rb 56 56 (stCells V) (0, 0) _ h Try.underlying56 rfl (rinfo_size V)
theorem rstore (w : World) (V U : Kv) : (storeVar 56 ⟨w.heap.size, 0, none⟩ (.agg (stCells V))).run Try.prog (w.alloc (.cells (stCells U) 56)) = .ok () (w.alloc (.cells (stCells V) 56)) :=
  run_storeVar_new w 56 (stCells U) (stCells V) (rinfo_size V) (by rw [stCells_size, stCells_size]) (stCells_one V)
theorem rstore_cells (w : World) (V U : Kv) : (storeCells ⟨w.heap.size, 0, none⟩ (stCells V).toList 0).run Try.prog (w.alloc (.cells (stCells U) 56)) = .ok () (w.alloc (.cells (stCells V) 56)) :=
  run_storeCells_new w 56 (stCells U) (stCells V) (rinfo_size V) (by rw [stCells_size, stCells_size]) (stCells_one V)
/-- The operations load and store of a whole value. -/
theorem wp_load_whole {P : Program} {o : Oper} {a : Act} {w : World} {K : Act → World → Prop} {Q : Exit → Act → World → Prop} (ty : TypeId) (x : Operand) (ho : o.op = .load ty x)
    (g : Nat) (cells : Array Value) (hx : a.eval x = .pointer (some ⟨g, 0, none⟩)) (hl : (loadVar ty ⟨g, 0, none⟩).run P w = .ok (.agg cells) w) (h : K (a.put o.dst (.agg cells)) w) : o.wp P a w K Q := by
  unfold Oper.wp execOp
  simp only [ho, hx, Instr.loadAt, Instr.sureAddr, Sem.run_bind, Sem.run_pure, Result.andThen_ok, hl]
  exact h
theorem wp_store_whole {P : Program} {o : Oper} {a : Act} {w w' : World} {K : Act → World → Prop} {Q : Exit → Act → World → Prop} (ty : TypeId) (x y : Operand) (ho : o.op = .store ty x y)
    (g : Nat) (cells : Array Value) (hx : a.eval x = .pointer (some ⟨g, 0, none⟩)) (hy : a.eval y = .agg cells) (hs : (storeVar ty ⟨g, 0, none⟩ (.agg cells)).run P w = .ok () w') (h : K (a.put o.dst undef) w') : o.wp P a w K Q := by
  unfold Oper.wp execOp
  simp only [ho, hx, hy, Instr.storeAt, Instr.sureAddr, Sem.run_bind, Sem.run_pure, Result.andThen_ok, hs]
  exact h
theorem quiet_load_whole {P : Program} {o : Oper} {a : Act} {C : World → Prop} {K : Act → Prop} (ty : TypeId) (x : Operand) (ho : o.op = .load ty x)
    (g : Nat) (cells : Array Value) (hx : a.eval x = .pointer (some ⟨g, 0, none⟩)) (hl : ∀ w, C w → (loadVar ty ⟨g, 0, none⟩).run P w = .ok (.agg cells) w) (h : K (a.put o.dst (.agg cells))) : o.quiet P a C K :=
  ⟨.agg cells, fun w hw => by
    have h1 : (execOp a.eval o).run P w = .ok (.value (.agg cells)) w := by
      unfold execOp
      simp only [ho, hx, Instr.loadAt, Instr.sureAddr, Sem.run_bind, Sem.run_pure, Result.andThen_ok, hl w hw]
    unfold Oper.quietAt
    rw [h1]
    exact ⟨rfl, rfl⟩, h⟩
theorem eq_ints (xs ys : Array Value) (f g : Nat → Int) (d : Nat) (w : World) : ∀ is : List Nat, (∀ i ∈ is, xs[i]? = some (.int .i64 (f i)) ∧ ys[i]? = some (.int .i64 (g i))) →
    (Op.eqItems (d + 1) 3 1 xs ys is).run Try.prog w = .ok (is.all fun i => decide (f i = g i)) w
  | [], _ => by simp [Op.eqItems]
  | i :: is, h => by
    obtain ⟨h1, h2⟩ := h i (by simp)
    have ih := eq_ints xs ys f g d w is (fun j hj => h j (by simp [hj]))
    by_cases e : f i = g i
    · simp [Op.eqItems, part, go_sem, h1, h2, e, ih]
    · simp [Op.eqItems, part, go_sem, h1, h2, e]
theorem eq_bools (xs ys : Array Value) (f g : Nat → Bool) (d : Nat) (w : World) : ∀ is : List Nat, (∀ i ∈ is, xs[i]? = some (.bool (f i)) ∧ ys[i]? = some (.bool (g i))) →
    (Op.eqItems (d + 1) 4 1 xs ys is).run Try.prog w = .ok (is.all fun i => decide (f i = g i)) w
  | [], _ => by simp [Op.eqItems]
  | i :: is, h => by
    obtain ⟨h1, h2⟩ := h i (by simp)
    have ih := eq_bools xs ys f g d w is (fun j hj => h j (by simp [hj]))
    by_cases e : f i = g i
    · simp [Op.eqItems, part, go_sem, h1, h2, e, ih]
    · simp [Op.eqItems, part, go_sem, h1, h2, e]
theorem rfields : Try.prog.underlying 56 = some (.struct (Try.prog.fieldsOf 56)) := by kernel_rfl
theorem part_vals (cs : Array Value) (w : World) : (part 53 cs 0).run Try.prog w = .ok (.agg (cs.extract 0 64)) w := by
  have h1 : ∀ w, (isAgg 53).run Try.prog w = .ok true w := fun w => by kernel_rfl
  have h2 : ∀ w, (sizeOf 53).run Try.prog w = .ok 64 w := fun w => by kernel_rfl
  simp only [part, Sem.run_bind, h1, h2, Result.andThen_ok, if_true, Sem.run_pure]
theorem part_has (cs : Array Value) (w : World) : (part 54 cs 64).run Try.prog w = .ok (.agg (cs.extract 64 128)) w := by
  have h1 : ∀ w, (isAgg 54).run Try.prog w = .ok true w := fun w => by kernel_rfl
  have h2 : ∀ w, (sizeOf 54).run Try.prog w = .ok 64 w := fun w => by kernel_rfl
  simp only [part, Sem.run_bind, h1, h2, Result.andThen_ok, if_true, Sem.run_pure]
theorem vals_at (V : Kv) {i : Nat} (h : i < 64) : ((stCells V).extract 0 64)[i]? = some (.int .i64 (V.val i)) := by
  rw [Array.getElem?_extract, if_pos (by rw [stCells_size]; omega), Nat.zero_add]
  exact stCells_val V h
theorem has_at (V : Kv) {i : Nat} (h : i < 64) : ((stCells V).extract 64 128)[i]? = some (.bool (V i).isSome) := by
  rw [Array.getElem?_extract, if_pos (by rw [stCells_size]; omega)]
  exact stCells_has V h
theorem kv_eq {V U : Kv} (hV : V.Ok) (hU : U.Ok) : ((List.range 64).all fun i => decide (V.val (i : Int) = U.val i)) = true ∧ ((List.range 64).all fun i => decide ((V (i : Int)).isSome = (U i).isSome)) = true ↔ V = U := by
  constructor
  · rintro ⟨h1, h2⟩
    rw [List.all_eq_true] at h1 h2
    funext q
    by_cases hq : 0 ≤ q ∧ q < 64
    · obtain ⟨n, rfl⟩ := Int.eq_ofNat_of_zero_le hq.1
      have e1 := of_decide_eq_true (h1 n (List.mem_range.2 (by omega)))
      have e2 := of_decide_eq_true (h2 n (List.mem_range.2 (by omega)))
      unfold Kv.val at e1
      cases a : V (n : Int) with
      | none =>
        cases b : U (n : Int) with
        | none => rfl
        | some u => rw [a, b] at e2; cases e2
      | some v =>
        cases b : U (n : Int) with
        | none => rw [a, b] at e2; cases e2
        | some u => rw [a, b] at e1; rw [show v = u from e1]
    · have a : V q = none := by cases e : V q with
        | none => rfl
        | some u => exact absurd (hV q u e).1 hq
      have b : U q = none := by cases e : U q with
        | none => rfl
        | some u => exact absurd (hU q u e).1 hq
      rw [a, b]
  · rintro rfl
    simp
theorem requal {V U : Kv} (hV : V.Ok) (hU : U.Ok) : ∃ r : Bool, (r = true ↔ V = U) ∧ ∀ w : World, (binOp .eql 56 (.agg (stCells V)) (.agg (stCells U))).run Try.prog w = .ok (.bool r) w := by
  refine ⟨((List.range 64).all fun i => decide (V.val (i : Int) = U.val i)) && ((List.range 64).all fun i => decide ((V (i : Int)).isSome = (U i).isSome)), ?_, fun w => ?_⟩
  · rw [Bool.and_eq_true]
    exact kv_eq hV hU
  · rw [run_eql_struct, run_equalIn_struct w 9999 56 _ _ rfields (by kernel_rfl)]
    have hf : (Try.prog.fieldsOf 56).toList = [⟨ "Val", 53, 0, false, "", "", 0⟩, ⟨ "Has", 54, 64, false, "", "", 512⟩] := by kernel_rfl
    rw [hf]
    obtain ⟨i1, hi1⟩ : ∃ i, Try.prog.info? 3 = some i := ⟨_, rfl⟩
    obtain ⟨i2, hi2⟩ : ∃ i, Try.prog.info? 4 = some i := ⟨_, rfl⟩
    have c1 : Try.prog.cellsOf 3 = 1 := by kernel_rfl
    have c2 : Try.prog.cellsOf 4 = 1 := by kernel_rfl
    have e1 := fun w => run_equalIn_array w 9998 ((stCells V).extract 0 64) ((stCells U).extract 0 64) Try.underlying53 hi1
    have e2 := fun w => run_equalIn_array w 9998 ((stCells V).extract 64 128) ((stCells U).extract 64 128) Try.underlying54 hi2
    rw [c1] at e1
    rw [c2] at e2
    have f1 := fun w => eq_ints ((stCells V).extract 0 64) ((stCells U).extract 0 64) (fun i => V.val (i : Int)) (fun i => U.val (i : Int)) 9997 w (List.range 64) (fun i hi => ⟨vals_at V (List.mem_range.1 hi), vals_at U (List.mem_range.1 hi)⟩)
    have f2 := fun w => eq_bools ((stCells V).extract 64 128) ((stCells U).extract 64 128) (fun i => (V (i : Int)).isSome) (fun i => (U (i : Int)).isSome) 9997 w (List.range 64) (fun i hi => ⟨has_at V (List.mem_range.1 hi), has_at U (List.mem_range.1 hi)⟩)
    generalize ((List.range 64).all fun i => decide (V.val (i : Int) = U.val i)) = r1 at f1 ⊢
    generalize ((List.range 64).all fun i => decide ((V (i : Int)).isSome = (U i).isSome)) = r2 at f2 ⊢
    have g1 : ∀ w, (Op.equalIn 9999 53 (.agg ((stCells V).extract 0 64)) (.agg ((stCells U).extract 0 64))).run Try.prog w = .ok r1 w := fun w => (e1 w).trans (f1 w)
    have g2 : ∀ w, (Op.equalIn 9999 54 (.agg ((stCells V).extract 64 128)) (.agg ((stCells U).extract 64 128))).run Try.prog w = .ok r2 w := fun w => (e2 w).trans (f2 w)
    cases r1
    · simp [Op.eqFields, part_vals, g1]
    · cases r2
      · simp [Op.eqFields, part_vals, part_has, g1, g2]
      · simp [Op.eqFields, part_vals, part_has, g1, g2]
end Go.Proofs.Ytpjcedilkahpiaa
