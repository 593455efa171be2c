/- Rows of requests: what an element is, beginnings and ends of a row. -/
import Derived.Test.YtcebnmhkbhhfiaaLists
import Derived.Test.YtcebnmhkbhhfiaaApps
namespace Go.Proofs.Ytcebnmhkbhhfiaa
open Go.RowKit

theorem info_req : (Try.prog.info? 71).map (fun i => (i.zero, i.size, i.bytes)) = some (some (.agg #[.int .i64 0, .int .i64 0, .int .i64 0, .int .i64 0, .int .i64 0, .int .i64 0]), 6, 48) := by kernel_rfl
theorem reqCells_one (l : List Rq) : ∀ u ∈ reqCells l, u.oneCell' = true := by
  intro u hu
  obtain ⟨v, _, hv⟩ := List.mem_flatMap.1 hu
  simp [Rq.cells] at hv
  rcases hv with rfl | rfl | rfl | rfl | rfl | rfl <;> rfl
theorem reqCells_app (l m : List Rq) : reqCells (l ++ m) = reqCells l ++ reqCells m := by simp [reqCells]
/-- Where a slice's rest lies. -/
def tailA (A : Option Addr) (c k : Nat) : Option Addr := if c = k then A else A.map fun x => x.add (k * 6)
set_option maxRecDepth 100000 in
theorem slice_head {w : World} (A : Option Addr) {n c k : Nat} (h : k ≤ c) : (Instr.slice 29 (.slice A n c) none (some (.int .i64 k)) none).run Try.prog w = .ok (.slice A k c) w := by
  rw [run_slice_h w 29 A n c Try.underlying29 .i64 k (by omega) (by omega)]
  have : (sizeOf (Try.prog.elem 29)).run Try.prog w = .ok 6 w := by kernel_rfl
  rw [this]
  show Result.ok (sliced A 0 (k : Int).toNat c 6) w = _
  unfold sliced
  cases A with
  | none => simp
  | some a => simp [Addr.add]
set_option maxRecDepth 100000 in
theorem slice_tail {w : World} (A : Option Addr) {n c k : Nat} (h : k ≤ n) : (Instr.slice 29 (.slice A n c) (some (.int .i64 k)) none none).run Try.prog w = .ok (.slice (tailA A c k) (n - k) (c - k)) w := by
  rw [run_slice_l w 29 A n c Try.underlying29 .i64 k (by omega) (by omega)]
  have : (sizeOf (Try.prog.elem 29)).run Try.prog w = .ok 6 w := by kernel_rfl
  rw [this]
  show Result.ok (sliced A (k : Int).toNat n c 6) w = _
  unfold sliced tailA
  simp
theorem reqCells_drop (l : List Rq) (k : Nat) : reqCells (l.drop k) = (reqCells l).drop (k * 6) := by
  induction k generalizing l with
  | zero => simp
  | succ k ih =>
    cases l with
    | nil => simp [reqCells]
    | cons x l =>
      rw [List.drop_succ_cons, ih]
      show (reqCells l).drop (k * 6) = (Rq.cells x ++ reqCells l).drop ((k + 1) * 6)
      have h6 : (Rq.cells x).length = 6 := rfl
      rw [show (k + 1) * 6 = (Rq.cells x).length + k * 6 by rw [h6]; omega, ← List.drop_drop, List.drop_left]
theorem reqCells_take (l : List Rq) (k : Nat) : reqCells (l.take k) = (reqCells l).take (k * 6) := by
  have h : reqCells (l.take k) ++ reqCells (l.drop k) = (reqCells l).take (k * 6) ++ (reqCells l).drop (k * 6) := by
    rw [← reqCells_app, List.take_append_drop, List.take_append_drop]
  rw [reqCells_drop] at h
  exact List.append_cancel_right h
theorem has_tail {w : World} {B c k : Nat} {A : Option Addr} {l : List Rq} (h : Has w B A (reqCells l)) (hc : l.length ≤ c) (hk : k ≤ l.length) : Has w B (tailA A c k) (reqCells (l.drop k)) := fun j u hj => by
  unfold tailA
  by_cases e : c = k
  · rw [List.drop_eq_nil_of_le (by omega)] at hj
    simp [reqCells] at hj
  · rw [if_neg e]
    rw [reqCells_drop, List.getElem?_drop] at hj
    obtain ⟨ad, rfl, hb, hcell⟩ := h _ u hj
    exact ⟨ad.add (k * 6), rfl, by rw [addr_block]; exact hb, by rw [addr_add]; exact hcell⟩
theorem tail_none {A : Option Addr} {c k : Nat} (h : A = none → c = 0) (e : tailA A c k = none) : c - k = 0 := by
  unfold tailA at e
  cases A with
  | none => rw [h rfl]; omega
  | some a =>
    split at e
    · cases e
    · cases e
end Go.Proofs.Ytcebnmhkbhhfiaa
