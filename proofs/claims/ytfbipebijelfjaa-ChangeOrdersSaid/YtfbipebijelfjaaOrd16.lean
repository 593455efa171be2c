/- Marks and the votes that they stand for (ChangeOrders). -/
import Derived.Test.YtfbipebijelfjaaChgOne
import Derived.Test.YtfbipebijelfjaaWithin
import Derived.Test.YtfbipebijelfjaaRow4
import Derived.Test.YtfbipebijelfjaaSameVotes
import Derived.Deep.DeepCutAuto
namespace Go.Proofs.Ytfbipebijelfjaa
open Go.RowKit
set_option linter.unusedSimpArgs false

theorem fC_set_len : ∀ {L : List Cw} {k i : Nat} {x y : Cw} {w : Int}, L[k]? = some x → hitC w x = false → hitC w y = true → (fC i (L.set k y) w).length = (fC i L w).length + 1
  | z :: L, 0, i, x, y, w, h, h1, h2 => by
    obtain rfl : z = x := by simpa using h
    rw [List.set_cons_zero, fC_cons, fC_cons, h1, h2]
    simp
  | z :: L, k + 1, i, x, y, w, h, h1, h2 => by
    rw [List.set_cons_succ, fC_cons, fC_cons, List.length_append, List.length_append, fC_set_len (L := L) (k := k) (i := i + 1) (by simpa using h) h1 h2]
    omega
/-- Marks, and the votes that they stand for. -/
structure Or16 (v : Int) (n : Nat) (bs : List Bool) (L : List Cw) : Prop where
  len : L.length = n
  bl : bs.length = 13
  at_ : ∀ j, j < n → (bs[j]? = some false ∧ L[j]? = some none) ∨ (bs[j]? = some true ∧ L[j]? = some (some (v, 7 + (j : Int))))
section
variable {v : Int} {n : Nat} {bs : List Bool} {L : List Cw}
theorem Or16.new (v : Int) {n : Nat} (h : n ≤ 13) : Or16 v n (List.replicate 13 false) (List.replicate n none) := by
  refine ⟨List.length_replicate, List.length_replicate, fun j hj => Or.inl ⟨?_, ?_⟩⟩
  · rw [List.getElem?_replicate, if_pos (by omega)]
  · rw [List.getElem?_replicate, if_pos hj]
theorem Or16.put_new (h : Or16 v n bs L) (v0 : 0 ≤ v) (v1 : v < 12) {k : Nat} (hk : k < n) (hb : bs[k]? = some false) : ptC L (k : Int) v (7 + (k : Int)) = (true, L.set k (some (v, 7 + (k : Int)))) ∧ Or16 v n (bs.set k true) (L.set k (some (v, 7 + (k : Int)))) ∧ (fC 0 (L.set k (some (v, 7 + (k : Int)))) v).length = (fC 0 L v).length + 1 := by
  have hx : L[k]? = some none := by
    rcases h.at_ k hk with e | e
    · exact e.2
    · rw [hb] at e; cases e.1
  refine ⟨ptC_good ⟨⟨by omega, by rw [h.len]; omega⟩, v0, v1, fun x e => ?_⟩, ⟨by rw [List.length_set]; exact h.len, by rw [List.length_set]; exact h.bl, fun j hj => ?_⟩, fC_set_len hx rfl (decide_eq_true rfl)⟩
  · rw [atC_in hx] at e; cases e
  · by_cases e : k = j
    · subst e
      exact Or.inr ⟨List.getElem?_set_self (by rw [h.bl]; have := (List.getElem?_eq_some_iff.1 hb).1; rw [h.bl] at this; exact this), List.getElem?_set_self (by rw [h.len]; exact hk)⟩
    · rw [List.getElem?_set_ne e, List.getElem?_set_ne e]
      exact h.at_ j hj
theorem Or16.put_old (h : Or16 v n bs L) {k : Nat} (hk : k < n) (hb : bs[k]? = some true) : ptC L (k : Int) v (7 + (k : Int)) = (false, L) := by
  have hx : L[k]? = some (some (v, 7 + (k : Int))) := by
    rcases h.at_ k hk with e | e
    · rw [hb] at e; cases e.1
    · exact e.2
  refine ptC_bad fun e => ?_
  have := e.2.2.2 _ (atC_in hx)
  simp at this
theorem Or16.hit (h : Or16 v n bs L) {x : Cw} (hx : x ∈ L) : x = none ∨ ∃ s, x = some (v, s) := by
  obtain ⟨j, hj, rfl⟩ := List.getElem_of_mem hx
  rcases h.at_ j (by rw [← h.len]; exact hj) with e | e
  · have := e.2; rw [List.getElem?_eq_getElem hj] at this; exact Or.inl (Option.some.inj this)
  · have := e.2; rw [List.getElem?_eq_getElem hj] at this; exact Or.inr ⟨_, Option.some.inj this⟩
theorem fC_none : ∀ {L : List Cw} {i : Nat} {w : Int}, (∀ x ∈ L, hitC w x = false) → fC i L w = []
  | [], _, _, _ => rfl
  | x :: L, i, w, h => by
    rw [fC_cons, h x List.mem_cons_self, fC_none (fun y hy => h y (List.mem_cons_of_mem _ hy))]
    rfl
theorem fC_num : ∀ {L : List Cw} {i : Nat} {v : Int}, (∀ x ∈ L, x = none ∨ ∃ s, x = some (v, s)) → numC L (v + 1) = (fC i L v).length
  | [], _, _, _ => rfl
  | x :: L, i, v, h => by
    have ih := fC_num (L := L) (i := i + 1) (v := v) (fun y hy => h y (List.mem_cons_of_mem _ hy))
    unfold numC at ih ⊢
    rw [fC_cons, List.length_append, ← ih]
    rcases h x List.mem_cons_self with rfl | ⟨s, rfl⟩
    · simp [belC, hitC]
    · have h1 : belC (v + 1) (some (v, s)) = true := decide_eq_true (show v < v + 1 by omega)
      have h2 : hitC v (some (v, s)) = true := decide_eq_true rfl
      rw [List.filter_cons_of_pos h1, h2]
      simp; omega
theorem Or16.other (h : Or16 v n bs L) {q : Nat} (hq : 0 < q) : enC L (v + 1) q = none := by
  unfold enC
  rw [fC_none (L := L) (w := v + 1) (fun x hx => by
    rcases h.hit hx with rfl | ⟨s, rfl⟩
    · rfl
    · exact decide_eq_false (show ¬ v = v + 1 by omega))]
  exact if_neg (by simp; omega)
theorem Or16.drop0 (h : Or16 v n bs L) : numC L v = 0 ∧ drC L v = L := by
  have hb : ∀ x ∈ L, belC v x = false := fun x hx => by
    rcases h.hit hx with rfl | ⟨s, rfl⟩
    · rfl
    · exact decide_eq_false (show ¬ v < v by omega)
  refine ⟨?_, ?_⟩
  · unfold numC
    rw [List.filter_eq_nil_iff.2 (fun x hx => by rw [hb x hx]; simp)]
    rfl
  · unfold drC
    conv => rhs; rw [← List.map_id L]
    exact List.map_congr_left fun x hx => by rw [hb x hx]; rfl
/-- The votes told so far by the marks. -/
theorem Or16.told (h : Or16 v n bs L) {q : Nat} {l : List Vt} (hl : enC L v q = some l) {k j : Nat} (hk : k < n) (hj : (fC 0 (L.take k) v).length = j) (hjq : j < q) (hb : bs[k]? = some true) : ∃ hjl : j < l.length, l[j] = ⟨(k : Int), 7 + (k : Int)⟩ ∧ (fC 0 (L.take (k + 1)) v).length = j + 1 := by
  have hx : L[k]? = some (some (v, 7 + (k : Int))) := by
    rcases h.at_ k hk with e | e
    · rw [hb] at e; cases e.1
    · exact e.2
  have hn : fC 0 (L.take (k + 1)) v = fC 0 (L.take k) v ++ [⟨(k : Int), 7 + (k : Int)⟩] := by
    rw [fC_next hx, if_pos (show hitC v (some (v, 7 + (k : Int))) = true from decide_eq_true rfl)]
    rfl
  obtain ⟨e1, e2, e3⟩ := enC_is hl
  obtain ⟨M, hM⟩ := fC_pre L (k + 1) v
  refine ⟨by omega, ?_, by rw [hn, List.length_append, hj]; rfl⟩
  have : l[j]? = some ⟨(k : Int), 7 + (k : Int)⟩ := by
    rw [e2, List.getElem?_take, if_pos hjq, hM, hn, List.append_assoc, List.getElem?_append_right (by omega), hj, Nat.sub_self]
    rfl
  rw [List.getElem?_eq_getElem (by omega)] at this
  exact Option.some.inj this
theorem Or16.skip (h : Or16 v n bs L) {k j : Nat} (hk : k < n) (hj : (fC 0 (L.take k) v).length = j) (hb : bs[k]? = some false) : (fC 0 (L.take (k + 1)) v).length = j := by
  have hx : L[k]? = some none := by
    rcases h.at_ k hk with e | e
    · exact e.2
    · rw [hb] at e; cases e.1
  rw [fC_next hx, show hitC v none = false from rfl]
  simpa using hj
end
/-- The law's variables: the votes, the marks. -/
structure Os16 (w : World) (hb vb g c : Nat) (f v : Int) (n : Nat) (bs : List Bool) (L : List Cw) (wr : World) : Prop where
  rv : Rv w vb g c f L wr
  arr : Blk wr hb 29 (boolCells bs)
  lo : w.heap.size ≤ hb
  or : Or16 v n bs L
section
variable {w wr wz : World} {hb vb g c n : Nat} {f v : Int} {bs bs' : List Bool} {L L' : List Cw}
theorem Os16.below (h : Os16 w hb vb g c f v n bs L wr) (hz : Below wr.heap.size wr wz) : Os16 w hb vb g c f v n bs L wz := ⟨h.rv.below hz, h.arr.below hz h.arr.lt, h.lo, h.or⟩
theorem Os16.drewN (h : Os16 w hb vb g c f v n bs L wr) (m : Nat) : Os16 w hb vb g c f v n bs L (wr.drewN m) := h.below ⟨rfl, rfl, rfl, Nat.le_refl _, fun _ _ => rfl⟩
theorem Os16.ne (h : Os16 w hb vb g c f v n bs L wr) : hb ≠ vb ∧ hb ≠ g := ⟨h.arr.ne_ h.rv.vq.blk (by decide), fun e => own_blk_ne h.rv.vq.row h.arr (by decide) (by rw [e]; rfl)⟩
theorem Os16.cell (h : Os16 w hb vb g c f v n bs L wr) {k : Nat} {b : Bool} (hk : bs[k]? = some b) : wr.cell? ⟨hb, k, none⟩ = some (.bool b) := (h.arr.cell k).trans (boolCells_get hk)
theorem Os16.mark (h : Os16 w hb vb g c f v n bs L wr) (hr : Rv w vb g c f L' wz) (ht : Turn (fun j => j = g) wr wz) {k : Nat} (ho : Or16 v n (bs.set k true) L') : Os16 w hb vb g c f v n (bs.set k true) L' (wz.setCell ⟨hb, k, none⟩ (.bool true)) := by
  have ha := (ht.blk h.arr h.ne.2).set_ k (.bool true)
  rw [boolCells_set] at ha
  have ht2 : Turn (fun j => j = hb) wz (wz.setCell ⟨hb, k, none⟩ (.bool true)) := (Turn.refl _ wz).set_ ⟨hb, k, none⟩ _ rfl
  exact ⟨⟨hr.vq.kept ht2 (Ne.symm h.ne.1) (Ne.symm h.ne.2), hr.lv, hr.lg, hr.low.trans (ht2.below hr.low.size (fun j hj e => by have := h.lo; omega))⟩, ha, h.lo, ho⟩
theorem Os16.same (h : Os16 w hb vb g c f v n bs L wr) (hr : Rv w vb g c f L wz) (ht : Turn (fun j => j = g) wr wz) : Os16 w hb vb g c f v n bs L wz := ⟨hr, ht.blk h.arr h.ne.2, h.lo, h.or⟩
end
end Go.Proofs.Ytfbipebijelfjaa
