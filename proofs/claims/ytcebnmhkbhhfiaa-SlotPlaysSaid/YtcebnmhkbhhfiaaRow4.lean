/- The law's own row: votes of a quorum, by rising nodes. -/
import Derived.Test.YtcebnmhkbhhfiaaRefRising
import Derived.Test.YtcebnmhkbhhfiaaWithin
namespace Go.Proofs.Ytcebnmhkbhhfiaa
open Go.RowKit

/-- How many are marked. -/
def cnt : List Bool → Nat
  | [] => 0
  | b :: l => (if b then 1 else 0) + cnt l
theorem cnt_set : ∀ {l : List Bool} {k : Nat}, l[k]? = some false → cnt (l.set k true) = cnt l + 1
  | b :: l, 0, h => by
    obtain rfl : b = false := by simpa using h
    simp [cnt]; omega
  | b :: l, k + 1, h => by
    have := cnt_set (l := l) (k := k) (by simpa using h)
    simp only [List.set_cons_succ, cnt, this]; omega
theorem cnt_le : ∀ (l : List Bool), cnt l ≤ l.length
  | [] => Nat.le_refl _
  | b :: l => by
    have := cnt_le l
    simp only [cnt, List.length_cons]
    cases b <;> simp <;> omega
theorem cnt_full : ∀ {l : List Bool}, (∀ k, k < l.length → l[k]? = some true) → cnt l = l.length
  | [], _ => rfl
  | b :: l, h => by
    have h0 := h 0 (by simp)
    obtain rfl : b = true := by simpa using h0
    have := cnt_full (l := l) (fun k hk => by simpa using h (k + 1) (by simpa using hk))
    simp [cnt, this]; omega
theorem cnt_app (l m : List Bool) : cnt (l ++ m) = cnt l + cnt m := by
  induction l with
  | nil => simp [cnt]
  | cons b l ih => simp only [List.cons_append, cnt, ih]; omega
theorem cnt_next {l : List Bool} {k : Nat} {b : Bool} (h : l[k]? = some b) : cnt (l.take (k + 1)) = cnt (l.take k) + (if b then 1 else 0) := by
  rw [List.take_add_one, h, cnt_app]
  simp [cnt]
theorem cnt_mono (l : List Bool) (k n : Nat) (h : k ≤ n) : cnt (l.take k) ≤ cnt (l.take n) := by
  have : l.take k = (l.take n).take k := by rw [List.take_take, Nat.min_eq_left h]
  rw [this]
  have h2 : cnt (l.take n) = cnt ((l.take n).take k) + cnt ((l.take n).drop k) := by rw [← cnt_app, List.take_append_drop]
  omega
def boolCells (l : List Bool) : Array Value := (l.map Value.bool).toArray
theorem boolCells_get {l : List Bool} {k : Nat} {b : Bool} (h : l[k]? = some b) : (boolCells l)[k]? = some (.bool b) := by simp [boolCells, h]
theorem boolCells_set (l : List Bool) (k : Nat) (b : Bool) : (boolCells l).setIfInBounds k (.bool b) = boolCells (l.set k b) := by simp [boolCells, List.map_set]
/-- A row with a last vote more rises still. -/
theorem rises_app {N : Int} {v : Vt} (hv : v.nd < N) : ∀ {l : List Vt} {last : Int}, risesF N last l = true → (∀ x ∈ l, x.nd < v.nd) → last < v.nd → risesF N last (l ++ [v]) = true
  | [], last, _, _, h => by simp [risesF, h, hv]
  | x :: l, last, h, ha, hl => by
    simp only [risesF, Bool.and_eq_true] at h
    have := rises_app hv (l := l) (last := x.nd) h.2 (fun y hy => ha y (by simp [hy])) (ha x (by simp))
    simp only [List.cons_append, risesF, Bool.and_eq_true]
    exact ⟨h.1, this⟩
theorem got {l : List Bool} {k : Nat} (h : k < l.length) : ∃ b, l[k]? = some b := ⟨l[k], List.getElem?_eq_getElem h⟩
theorem info_vote : (Try.prog.info? 78).map (fun i => (i.zero, i.size, i.bytes)) = some (some (.agg #[.int .i64 0, .int .i64 0]), 2, 16) := by kernel_rfl

end Go.Proofs.Ytcebnmhkbhhfiaa
