/- psephoslaw11's plain cache (a number, four times, four results), as it tells a cache's replies. -/
import Derived.Test.YtibpleemclokiaaCacheOne
import Derived.Test.YtibpleemclokiaaStoreCopy
import Derived.Test.YtibpleemclokiaaWithin
namespace Go.Proofs.Ytibpleemclokiaa
open Go.RowKit Go.Maps

def plC (L : List (Int × Int)) : Array Value := #[.int .i64 L.length, .int .i64 (atL L 0).1, .int .i64 (atL L 1).1, .int .i64 (atL L 2).1, .int .i64 (atL L 3).1, .int .i64 (atL L 0).2, .int .i64 (atL L 1).2, .int .i64 (atL L 2).2, .int .i64 (atL L 3).2]
theorem plC_at (L : List (Int × Int)) {k : Nat} (h : k < 4) : (plC L)[1 + k]? = some (.int .i64 (atL L k).1) ∧ (plC L)[5 + k]? = some (.int .i64 (atL L k).2) := by
  have : k = 0 ∨ k = 1 ∨ k = 2 ∨ k = 3 := by omega
  rcases this with rfl | rfl | rfl | rfl <;> exact ⟨rfl, rfl⟩
theorem plC_put {L : List (Int × Int)} {k : Nat} (h : k < L.length) (h4 : L.length ≤ 4) (t r : Int) : ((plC L).setIfInBounds (1 + k) (.int .i64 t)).setIfInBounds (5 + k) (.int .i64 r) = plC (L.set k (t, r)) := by
  have : k = 0 ∨ k = 1 ∨ k = 2 ∨ k = 3 := by omega
  rcases this with rfl | rfl | rfl | rfl <;> simp [plC, atL_set h]
theorem plC_put2 {L : List (Int × Int)} {k : Nat} (h : k < L.length) (h4 : L.length ≤ 4) (t r : Int) : ((plC L).setIfInBounds (5 + k) (.int .i64 r)).setIfInBounds (1 + k) (.int .i64 t) = plC (L.set k (t, r)) := by
  have : k = 0 ∨ k = 1 ∨ k = 2 ∨ k = 3 := by omega
  rcases this with rfl | rfl | rfl | rfl <;> simp [plC, atL_set h]
theorem plC_inj {L M : List (Int × Int)} (h4 : L.length ≤ 4) (hl : L.length = M.length) : (plC L = plC M) ↔ L = M := by
  constructor
  · intro h
    unfold plC at h
    simp only [Array.mk.injEq, List.cons.injEq, Value.int.injEq, true_and, and_true] at h
    obtain ⟨-, a0, a1, a2, a3, b0, b1, b2, b3⟩ := h
    refine List.ext_getElem hl fun k h1 h2 => ?_
    rw [← atL_in h1, ← atL_in h2]
    have : k = 0 ∨ k = 1 ∨ k = 2 ∨ k = 3 := by omega
    rcases this with rfl | rfl | rfl | rfl
    · exact Prod.ext a0 b0
    · exact Prod.ext a1 b1
    · exact Prod.ext a2 b2
    · exact Prod.ext a3 b3
  · rintro rfl; rfl
def Pl (w : World) (pb : Nat) (L : List (Int × Int)) : Prop := Blk w pb 39 (plC L)
theorem pfields : Try.prog.underlying 39 = some (.struct (Try.prog.fieldsOf 39)) := by kernel_rfl
theorem part_n (cs : Array Value) (u : Value) (h : cs[0]? = some u) (w : World) : (part 3 cs 0).run Try.prog w = .ok u w := by
  have h1 : ∀ w, (isAgg 3).run Try.prog w = .ok false w := fun w => by kernel_rfl
  simp [part, Sem.run_bind, h1, Result.andThen_ok, h]
theorem part_time (cs : Array Value) (w : World) : (part 37 cs 1).run Try.prog w = .ok (.agg (cs.extract 1 5)) w := by
  have h1 : ∀ w, (isAgg 37).run Try.prog w = .ok true w := fun w => by kernel_rfl
  have h2 : ∀ w, (sizeOf 37).run Try.prog w = .ok 4 w := fun w => by kernel_rfl
  simp only [part, Sem.run_bind, h1, h2, Result.andThen_ok, if_true, Sem.run_pure]
theorem part_res (cs : Array Value) (w : World) : (part 37 cs 5).run Try.prog w = .ok (.agg (cs.extract 5 9)) w := by
  have h1 : ∀ w, (isAgg 37).run Try.prog w = .ok true w := fun w => by kernel_rfl
  have h2 : ∀ w, (sizeOf 37).run Try.prog w = .ok 4 w := fun w => by kernel_rfl
  simp only [part, Sem.run_bind, h1, h2, Result.andThen_ok, if_true, Sem.run_pure]
theorem time_at (L : List (Int × Int)) {i : Nat} (h : i < 4) : ((plC L).extract 1 5)[i]? = some (.int .i64 (atL L i).1) := by
  rw [Array.getElem?_extract, if_pos (by simp [plC]; omega)]
  exact (plC_at L h).1
theorem res_at (L : List (Int × Int)) {i : Nat} (h : i < 4) : ((plC L).extract 5 9)[i]? = some (.int .i64 (atL L i).2) := by
  rw [Array.getElem?_extract, if_pos (by simp [plC]; omega)]
  exact (plC_at L h).2
theorem pl_eq {L M : List (Int × Int)} (h4 : L.length ≤ 4) (hl : L.length = M.length) : ((List.range 4).all fun i => decide ((atL L (i : Int)).1 = (atL M i).1)) = true ∧ ((List.range 4).all fun i => decide ((atL L (i : Int)).2 = (atL M i).2)) = true ↔ L = M := by
  constructor
  · rintro ⟨h1, h2⟩
    rw [List.all_eq_true] at h1 h2
    refine List.ext_getElem hl fun k k1 k2 => ?_
    rw [← atL_in k1, ← atL_in k2]
    exact Prod.ext (of_decide_eq_true (h1 k (List.mem_range.2 (by omega)))) (of_decide_eq_true (h2 k (List.mem_range.2 (by omega))))
  · rintro rfl
    simp
theorem pequal {L M : List (Int × Int)} (h4 : L.length ≤ 4) (hl : L.length = M.length) (w : World) : (binOp .eql 39 (.agg (plC L)) (.agg (plC M))).run Try.prog w = .ok (.bool (sameL L M)) w := by
  have hr : (((List.range 4).all fun i => decide ((atL L (i : Int)).1 = (atL M i).1)) && ((List.range 4).all fun i => decide ((atL L (i : Int)).2 = (atL M i).2))) = sameL L M := by
    rw [Bool.eq_iff_iff, Bool.and_eq_true, pl_eq h4 hl]
    unfold sameL
    rw [decide_eq_true_iff]
  rw [← hr, run_eql_struct, run_equalIn_struct w 9999 39 _ _ pfields (by kernel_rfl)]
  have hf : (Try.prog.fieldsOf 39).toList = [⟨ "n", 3, 0, false, "", "psephos/psephoslaw11", 0⟩, ⟨ "time", 37, 1, false, "", "psephos/psephoslaw11", 8⟩, ⟨ "res", 37, 5, false, "", "psephos/psephoslaw11", 40⟩] := by kernel_rfl
  rw [hf]
  obtain ⟨i1, hi1⟩ : ∃ i, Try.prog.info? 3 = some i := ⟨_, rfl⟩
  have c1 : Try.prog.cellsOf 3 = 1 := by kernel_rfl
  have n0 := fun w => part_n (plC L) (.int .i64 L.length) rfl w
  have n1 := fun w => part_n (plC M) (.int .i64 L.length) (by rw [hl]; rfl) w
  have e1 := fun w => run_equalIn_array w 9998 ((plC L).extract 1 5) ((plC M).extract 1 5) Try.underlying37 hi1
  have e2 := fun w => run_equalIn_array w 9998 ((plC L).extract 5 9) ((plC M).extract 5 9) Try.underlying37 hi1
  rw [c1] at e1 e2
  have f1 := fun w => eq_ints ((plC L).extract 1 5) ((plC M).extract 1 5) (fun i => (atL L (i : Int)).1) (fun i => (atL M (i : Int)).1) 9997 w (List.range 4) (fun i hi => ⟨time_at L (List.mem_range.1 hi), time_at M (List.mem_range.1 hi)⟩)
  have f2 := fun w => eq_ints ((plC L).extract 5 9) ((plC M).extract 5 9) (fun i => (atL L (i : Int)).2) (fun i => (atL M (i : Int)).2) 9997 w (List.range 4) (fun i hi => ⟨res_at L (List.mem_range.1 hi), res_at M (List.mem_range.1 hi)⟩)
  generalize ((List.range 4).all fun i => decide ((atL L (i : Int)).1 = (atL M i).1)) = r1 at f1 ⊢
  generalize ((List.range 4).all fun i => decide ((atL L (i : Int)).2 = (atL M i).2)) = r2 at f2 ⊢
  have g0 : ∀ w, (Op.equalIn 9999 3 (.int .i64 L.length) (.int .i64 L.length)).run Try.prog w = .ok true w := fun w => by simp [go_sem]
  have g1 : ∀ w, (Op.equalIn 9999 37 (.agg ((plC L).extract 1 5)) (.agg ((plC M).extract 1 5))).run Try.prog w = .ok r1 w := fun w => (e1 w).trans (f1 w)
  have g2 : ∀ w, (Op.equalIn 9999 37 (.agg ((plC L).extract 5 9)) (.agg ((plC M).extract 5 9))).run Try.prog w = .ok r2 w := fun w => (e2 w).trans (f2 w)
  cases r1
  · simp [Op.eqFields, n0, n1, g0, part_time, g1]
  · cases r2
    · simp [Op.eqFields, n0, n1, g0, part_time, part_res, g1, g2]
    · simp [Op.eqFields, n0, n1, g0, part_time, part_res, g1, g2]
theorem plC_size (L : List (Int × Int)) : (plC L).size = 9 := rfl
theorem pinfo_size (L : List (Int × Int)) : (Try.prog.info? 39).map (·.size) = some (plC L).size := by
  rw [plC_size]
  kernel_rfl
theorem plC_one (L : List (Int × Int)) : (plC L).all (·.oneCell') = true := by simp [plC, Value.oneCell']
theorem pload {w : World} {pb : Nat} {L : List (Int × Int)} (h : Pl w pb L) : (loadVar 39 ⟨pb, 0, none⟩).run Try.prog w = .ok (.agg (plC L)) w :=
  run_loadVar_row w pb 39 39 (plC L) (0, 0) _ h Try.underlying39 rfl (pinfo_size L)
theorem pstore_cells (w : World) (L M : List (Int × Int)) : (storeCells ⟨w.heap.size, 0, none⟩ (plC L).toList 0).run Try.prog (w.alloc (.cells (plC M) 39)) = .ok () (w.alloc (.cells (plC L) 39)) :=
  run_storeCells_new w 39 (plC M) (plC L) (pinfo_size L) (by rw [plC_size, plC_size]) (plC_one L)
theorem plC_new {n : Nat} (h1 : 1 ≤ n) (h4 : n ≤ 4) : plC (List.replicate n (0, 0)) = #[.int .i64 n, .int .i64 0, .int .i64 0, .int .i64 0, .int .i64 0, .int .i64 0, .int .i64 0, .int .i64 0, .int .i64 0] := by
  have : n = 1 ∨ n = 2 ∨ n = 3 ∨ n = 4 := by omega
  rcases this with rfl | rfl | rfl | rfl <;> rfl
theorem plC_nil : plC [] = #[.int .i64 0, .int .i64 0, .int .i64 0, .int .i64 0, .int .i64 0, .int .i64 0, .int .i64 0, .int .i64 0, .int .i64 0] := rfl
end Go.Proofs.Ytibpleemclokiaa
