/- Package change: votes in memory; has, View, Put, New. -/
import Derived.Test.YtfbipebijelfjaaChgMath
import Derived.Test.YtfbipebijelfjaaNotary
import Derived.Test.YtfbipebijelfjaaRowCells
import Derived.Test.YtfbipebijelfjaaBallotNums
import Derived.Laws.MakeOwn
import Derived.Deep.RegionHeld3
import Derived.Deep.RegionLaw
import Derived.Lib.QuietBelow
namespace Go.Proofs.Ytfbipebijelfjaa
open Go.RowKit
set_option linter.unusedSimpArgs false

theorem flatMap_set {α : Type} {h : α → List Value} {s : Nat} (hl : ∀ x, (h x).length = s) {M : List α} {k : Nat} (hk : k < M.length) (x : α) : (M.flatMap h).take (k * s) ++ h x ++ (M.flatMap h).drop (k * s + s) = (M.set k x).flatMap h := by
  induction M generalizing k with
  | nil => simp at hk
  | cons y M ih =>
    cases k with
    | zero =>
      rw [List.flatMap_cons, List.set_cons_zero, List.flatMap_cons, Nat.zero_mul, List.take_zero, List.nil_append, Nat.zero_add, List.drop_left' (hl y)]
    | succ k =>
      have := ih (k := k) (by simpa using hk)
      rw [List.flatMap_cons, List.set_cons_succ, List.flatMap_cons, ← this, Nat.succ_mul, List.append_assoc, List.append_assoc]
      have e : k * s + s = (h y).length + k * s := by rw [hl]; omega
      have e2 : k * s + s + s = (h y).length + (k * s + s) := by rw [hl]; omega
      rw [e, List.take_append, List.take_of_length_le (by omega), show (h y).length + k * s - (h y).length = k * s by omega, ← e, e2, List.drop_append, List.drop_of_length_le (by omega), List.nil_append, show (h y).length + (k * s + s) - (h y).length = k * s + s by omega, List.append_assoc]
def cwCells : Cw → List Value
  | some p => [.bool true, .int .i64 p.1, .int .i64 p.2]
  | none => [.bool false, .int .i64 0, .int .i64 0]
theorem cw_len (x : Cw) : (cwCells x).length = 3 := by cases x <;> rfl
def rowC (L : List Cw) : List Value := L.flatMap cwCells
theorem rowC_len (L : List Cw) : (rowC L).length = L.length * 3 := flatMap_len cw_len L
theorem rowC_one (L : List Cw) : ∀ u ∈ rowC L, u.oneCell' = true := by
  intro u hu
  obtain ⟨x, _, hx⟩ := List.mem_flatMap.1 hu
  cases x with
  | none => simp [cwCells] at hx; rcases hx with rfl | rfl <;> rfl
  | some p => simp [cwCells] at hx; rcases hx with rfl | rfl | rfl <;> rfl
theorem info_cw : (Try.prog.info? 60).map (fun i => (i.zero, i.size, i.bytes)) = some (some (.agg #[.bool false, .int .i64 0, .int .i64 0]), 3, 24) := by kernel_rfl
/-- The votes in block vb, their row in block g. -/
structure Vq (w : World) (vb g c : Nat) (f : Int) (L : List Cw) : Prop where
  blk : Blk w vb 57 #[.int .i64 f, .slice (some ⟨g, 0, none⟩) L.length c]
  row : w.ownsRow 0 60 3 (.slice (some ⟨g, 0, none⟩) L.length c) L.length (rowC L)
  f1 : 1 ≤ f
  f4 : f ≤ 4
  n1 : (L.length : Int) = 3 * f + 1
  ok : OkC L
section
variable {w w' : World} {vb g c : Nat} {f : Int} {L : List Cw}
theorem Vq.kept {Z : Nat → Prop} (h : Vq w vb g c f L) (ht : Turn Z w w') (h1 : ¬ Z vb) (h2 : ¬ Z g) : Vq w' vb g c f L :=
  ⟨ht.blk h.blk h1, ht.own h.row (fun k hk => by cases hk; exact h2), h.f1, h.f4, h.n1, h.ok⟩
theorem Vq.drewN (h : Vq w vb g c f L) (n : Nat) : Vq (w.drewN n) vb g c f L := h.kept ((Turn.refl (fun _ => False) w).drewN n) id id
theorem Vq.drew (h : Vq w vb g c f L) : Vq w.drew vb g c f L := h.drewN 1
theorem Vq.below (h : Vq w vb g c f L) (ht : Below w.heap.size w w') : Vq w' vb g c f L := h.kept (Turn.of_below (Z := fun _ => False) ht) id id
theorem Vq.ne (h : Vq w vb g c f L) : vb ≠ g := fun e => own_blk_ne h.row h.blk (by decide) (by rw [e]; rfl)
theorem Vq.lt (h : Vq w vb g c f L) : vb < w.heap.size ∧ g < w.heap.size := ⟨h.blk.lt, (h.row.lt g rfl).2⟩
/-- The cells of a node's vote. -/
theorem Vq.at (h : Vq w vb g c f L) {k : Nat} (hk : k < L.length) {a b d : Value} (hx : cwCells L[k] = [a, b, d]) : w.cell? ⟨g, k * 3, none⟩ = some a ∧ w.cell? ⟨g, k * 3 + 1, none⟩ = some b ∧ w.cell? ⟨g, k * 3 + 2, none⟩ = some d := by
  obtain ⟨ad, e, _, hc⟩ := (has_rows h.row).thing (f := cwCells) (s := 3) cw_len (by omega) hk
  cases e
  rw [hx] at hc
  refine ⟨?_, ?_, ?_⟩
  · have := hc 0 _ rfl; rwa [addr_at] at this
  · have := hc 1 _ rfl; rwa [addr_at] at this
  · have := hc 2 _ rfl; rwa [addr_at] at this
theorem Vq.frozen (h : Vq w vb g c f L) (j : Nat) : w.frozen? ⟨g, j, none⟩ = false := h.row.frozenAt j
/-- A node's vote is set. -/
theorem Vq.put (h : Vq w vb g c f L) {k : Nat} (hk : k < L.length) {x : Cw} {a b d : Value} (hx : cwCells x = [a, b, d]) (ho : OkC (L.set k x)) : Vq (((w.setCell ⟨g, k * 3, none⟩ a).setCell ⟨g, k * 3 + 1, none⟩ b).setCell ⟨g, k * 3 + 2, none⟩ d) vb g c f (L.set k x) := by
  have h1 := own_cells h.row (o := k * 3) (vs := [a, b, d]) (by show k * 3 + 3 ≤ L.length * 3; omega)
  have h2 := flatMap_set cw_len hk x
  rw [hx] at h2
  refine ⟨?_, ?_, h.f1, h.f4, by rw [List.length_set]; exact h.n1, ho⟩
  · rw [List.length_set]
    exact ((h.blk.far h.ne _).far h.ne _).far h.ne _
  · rw [List.length_set]
    show World.ownsRow _ _ _ _ _ _ ((L.set k x).flatMap cwCells)
    rw [← h2]
    exact h1
theorem chas_any (h : Vq w vb g c f L) (k : Int) : Calls Try.prog 22 #[.pointer (some ⟨vb, 0, none⟩), .int .i64 k] w fun e w' => e = .returned (.bool (decide (inC L k))) ∧ w = w' := by
  have c1 := h.blk.cell 1
  simp only [List.getElem?_toArray, List.getElem?_cons_zero, List.getElem?_cons_succ] at c1
  have HE := Lib.hid (show decide (inC L k) = (decide (0 ≤ k) && decide (k < (L.length : Int))) by unfold inC; by_cases h1 : 0 ≤ k <;> by_cases h2 : k < (L.length : Int) <;> simp [h1, h2])
  obtain ⟨n, hn⟩ : ∃ n, L.length = n := ⟨_, rfl⟩
  rw [hn] at c1 HE
  rw [HE.out]
  clear h hn HE
  cases h1 : decide (0 ≤ k)
  · go_enter Try.func22, Try.ntmps22
    go_wp2_with fail
    go_ret
    exact ⟨rfl, rfl⟩
  · go_enter Try.func22, Try.ntmps22
    go_wp2_with fail
    go_ret
    exact ⟨rfl, rfl⟩
theorem cview_any (h : Vq w vb g c f L) (k : Int) : Calls Try.prog 20 #[.pointer (some ⟨vb, 0, none⟩), .int .i64 k] w fun e w' => e = .returned (.tuple #[.int .i64 (vwC (atC L k)), .bool (atC L k).isSome]) ∧ ∃ n, w' = w.drewN n := by
  have HH := Lib.hid (chas_any h k)
  by_cases hk : inC L k
  · obtain ⟨m, rfl⟩ := Int.eq_ofNat_of_zero_le hk.1
    have hm : m < L.length := by have := hk.2; omega
    obtain ⟨x, hx⟩ : ∃ x, L[m] = x := ⟨_, rfl⟩
    rw [atC_in (List.getElem?_eq_getElem hm), hx]
    obtain ⟨a, b, d, hc, ha, hb⟩ : ∃ a b d, cwCells x = [a, b, d] ∧ a = .bool x.isSome ∧ b = .int .i64 (vwC x) := by cases x <;> exact ⟨_, _, _, rfl, rfl, rfl⟩
    have hcs := h.at hm (by rw [hx]; exact hc)
    rw [ha, hb] at hcs
    obtain ⟨r0, hr0⟩ : ∃ y, x.isSome = y := ⟨_, rfl⟩
    obtain ⟨r1, hr1⟩ : ∃ y, vwC x = y := ⟨_, rfl⟩
    rw [hr0, hr1] at hcs ⊢
    have HC := Lib.hid hcs
    have HB := Lib.hid h.blk
    rw [decide_eq_true hk] at HH
    obtain ⟨n, hn⟩ : ∃ n, L.length = n := ⟨_, rfl⟩
    rw [hn] at HB hm
    have hmi : (m : Int) < (n : Int) := by omega
    have e1 := (show w.cell? ⟨vb, 1, none⟩ = some (.slice (some ⟨g, 0, none⟩) n c) from HB.out.cell 1)
    have e2 := (show w.cell? ⟨g, m * 3, none⟩ = some (.bool r0) from HC.out.1)
    have e3 := (show w.cell? ⟨g, m * 3 + 1, none⟩ = some (.int .i64 r1) from HC.out.2.1)
    clear h hk hx hc ha hb hcs hr0 hr1 hn
    go_enter Try.func20, Try.ntmps20
    go_wp2_with fail
    refine HH.out.mono ?_
    rintro e w1 ⟨rfl, rfl⟩
    go_wp2_with fail
    go_region
    go_wp2_with fail
    go_ret2
    exact ⟨rfl, _, rfl⟩
  · rw [atC_out hk]
    rw [decide_eq_false hk] at HH
    clear h hk
    go_enter Try.func20, Try.ntmps20
    go_wp2_with fail
    refine HH.out.mono ?_
    rintro e w1 ⟨rfl, rfl⟩
    go_wp2_with fail
    go_ret2
    exact ⟨rfl, 0, rfl⟩
end
end Go.Proofs.Ytfbipebijelfjaa
