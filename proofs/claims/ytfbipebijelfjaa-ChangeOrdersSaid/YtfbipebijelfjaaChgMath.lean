/- Votes to leave views, as a list by node: what each call answers. Nothing of the program. -/
import Derived.Test.YtfbipebijelfjaaForms
namespace Go.Proofs.Ytfbipebijelfjaa
set_option linter.unusedSimpArgs false

/-- A node's vote, if it has one: the view and the seal. -/
abbrev Cw := Option (Int × Int)
def inC (L : List Cw) (k : Int) : Prop := 0 ≤ k ∧ k < (L.length : Int)
instance (L : List Cw) (k : Int) : Decidable (inC L k) := inferInstanceAs (Decidable (_ ∧ _))
def atC (L : List Cw) (k : Int) : Cw := if 0 ≤ k then L.getD k.toNat none else none
/-- Whether Put takes it. -/
def takesC (L : List Cw) (k vw : Int) : Prop := inC L k ∧ 0 ≤ vw ∧ vw < 12 ∧ ∀ x, atC L k = some x → x.1 < vw
instance (L : List Cw) (k vw : Int) : Decidable (takesC L k vw) :=
  match h : atC L k with
  | none => decidable_of_iff (inC L k ∧ 0 ≤ vw ∧ vw < 12) (by unfold takesC; rw [h]; simp)
  | some x => decidable_of_iff (inC L k ∧ 0 ≤ vw ∧ vw < 12 ∧ x.1 < vw) (by unfold takesC; rw [h]; simp)
def ptC (L : List Cw) (k vw sg : Int) : Bool × List Cw := if takesC L k vw then (true, L.set k.toNat (some (vw, sg))) else (false, L)
def vwC (x : Cw) : Int := match x with | some p => p.1 | none => 0
def belC (b : Int) (x : Cw) : Bool := match x with | some p => decide (p.1 < b) | none => false
def drC (L : List Cw) (b : Int) : List Cw := L.map fun x => if belC b x then none else x
def numC (L : List Cw) (b : Int) : Nat := (L.filter (belC b)).length
/-- The votes for a view, of nodes from k on. -/
def fC : Nat → List Cw → Int → List Vt
  | _, [], _ => []
  | k, x :: L, w => match x with
    | some p => if p.1 = w then ⟨(k : Int), p.2⟩ :: fC (k + 1) L w else fC (k + 1) L w
    | none => fC (k + 1) L w
def enC (L : List Cw) (w : Int) (q : Nat) : Option (List Vt) := if q ≤ (fC 0 L w).length then some ((fC 0 L w).take q) else none
def hitC (w : Int) (x : Cw) : Bool := match x with | some p => decide (p.1 = w) | none => false
theorem fC_cons (k : Nat) (x : Cw) (L : List Cw) (w : Int) : fC k (x :: L) w = (if hitC w x then [⟨(k : Int), (x.getD (0, 0)).2⟩] else []) ++ fC (k + 1) L w := by
  cases x with
  | none => rfl
  | some p =>
    show (if p.1 = w then _ else _) = _
    unfold hitC
    by_cases h : p.1 = w
    · rw [if_pos h, if_pos (decide_eq_true h)]; rfl
    · rw [if_neg h, if_neg (by simpa using h)]; rfl
theorem fC_app : ∀ (L M : List Cw) (k : Nat) (w : Int), fC k (L ++ M) w = fC k L w ++ fC (k + L.length) M w
  | [], M, k, w => by simp [fC]
  | x :: L, M, k, w => by
    rw [List.cons_append, fC_cons, fC_cons, fC_app L M (k + 1) w, show k + (x :: L).length = k + 1 + L.length by simp; omega, List.append_assoc]
theorem fC_le : ∀ (L : List Cw) (k : Nat) (w : Int), (fC k L w).length ≤ L.length
  | [], _, _ => Nat.le_refl _
  | x :: L, k, w => by
    have ih := fC_le L (k + 1) w
    rw [fC_cons, List.length_append, List.length_cons]
    split <;> simp <;> omega
theorem fC_two : ∀ (L : List Cw) (k : Nat) (v w : Int), v ≠ w → (fC k L v).length + (fC k L w).length ≤ L.length
  | [], _, _, _, _ => by simp [fC]
  | x :: L, k, v, w, h => by
    have ih := fC_two L (k + 1) v w h
    rw [fC_cons, fC_cons, List.length_append, List.length_append, List.length_cons]
    cases x with
    | none => simp [hitC]; omega
    | some p =>
      by_cases h1 : p.1 = v
      · have h2 : ¬ p.1 = w := fun e => h (h1.symm.trans e)
        simp [hitC, h1, h2, h]; omega
      · by_cases h2 : p.1 = w
        · simp [hitC, h1, h2, Ne.symm h]; omega
        · simp [hitC, h1, h2]; omega
theorem fC_next {L : List Cw} {k : Nat} {x : Cw} {w : Int} (h : L[k]? = some x) : fC 0 (L.take (k + 1)) w = fC 0 (L.take k) w ++ if hitC w x then [⟨(k : Int), (x.getD (0, 0)).2⟩] else [] := by
  have hk := (List.getElem?_eq_some_iff.1 h).1
  rw [List.take_add_one, h, fC_app]
  show _ ++ fC (0 + (L.take k).length) [x] w = _
  rw [List.length_take, Nat.min_eq_left (by omega), Nat.zero_add, fC_cons]
  show _ ++ (_ ++ fC (k + 1) [] w) = _
  rw [show fC (k + 1) [] w = [] from rfl, List.append_nil]
theorem fC_pre (L : List Cw) (k : Nat) (w : Int) : ∃ M, fC 0 L w = fC 0 (L.take k) w ++ M := by
  refine ⟨fC (0 + (L.take k).length) (L.drop k) w, ?_⟩
  rw [← fC_app, List.take_append_drop]
theorem enC_here {L : List Cw} {w : Int} {q k : Nat} (h : (fC 0 (L.take k) w).length = q) : enC L w q = some (fC 0 (L.take k) w) := by
  obtain ⟨M, hM⟩ := fC_pre L k w
  unfold enC
  rw [if_pos (by rw [hM, List.length_append]; omega), hM, ← h, List.take_left']
  rfl
theorem enC_end {L : List Cw} {w : Int} {q k : Nat} (h : (fC 0 (L.take k) w).length < q) (hk : L.length ≤ k) : enC L w q = none := by
  rw [List.take_of_length_le hk] at h
  exact if_neg (by omega)
theorem enC_is {L : List Cw} {w : Int} {q : Nat} {v : List Vt} (h : enC L w q = some v) : q ≤ (fC 0 L w).length ∧ v = (fC 0 L w).take q ∧ v.length = q := by
  unfold enC at h
  split at h
  · rename_i hq
    injection h with h
    subst h
    exact ⟨hq, rfl, by rw [List.length_take]; omega⟩
  · cases h
/-- No two views. -/
theorem enC_one {L : List Cw} {v w : Int} {q : Nat} (hq : L.length < 2 * q) {a b : List Vt} (h : enC L v q = some a) (k : enC L w q = some b) : v = w := by
  by_cases e : v = w
  · exact e
  · have := fC_two L 0 v w e
    have := (enC_is h).1
    have := (enC_is k).1
    omega
/-- Nodes rise. -/
theorem fC_nd : ∀ (L : List Cw) (k : Nat) (w : Int), ∀ x ∈ fC k L w, (k : Int) ≤ x.nd ∧ x.nd < (k : Int) + L.length
  | [], _, _, x, hx => by cases hx
  | y :: L, k, w, x, hx => by
    rw [fC_cons] at hx
    rcases List.mem_append.1 hx with hx | hx
    · split at hx
      · obtain rfl := List.mem_singleton.1 hx
        simp; omega
      · cases hx
    · have := fC_nd L (k + 1) w x hx
      simp; omega
theorem atC_in {L : List Cw} {k : Nat} {x : Cw} (h : L[k]? = some x) : atC L (k : Int) = x := by
  unfold atC
  rw [if_pos (by omega), Int.toNat_natCast, List.getD_eq_getElem?_getD, h]
  rfl
theorem atC_out {L : List Cw} {k : Int} (h : ¬ inC L k) : atC L k = none := by
  unfold atC
  by_cases h0 : 0 ≤ k
  · rw [if_pos h0, List.getD_eq_getElem?_getD, List.getElem?_eq_none (by unfold inC at h; omega)]
    rfl
  · rw [if_neg h0]
theorem atC_set {L : List Cw} {k : Nat} (h : k < L.length) (x : Cw) (j : Int) : atC (L.set k x) j = if j = k then x else atC L j := by
  unfold atC
  by_cases h0 : 0 ≤ j
  · rw [if_pos h0, if_pos h0, List.getD_eq_getElem?_getD, List.getD_eq_getElem?_getD, List.getElem?_set]
    by_cases e : j = k
    · subst e
      rw [if_pos (by simp), if_pos rfl, if_pos (by simpa using h)]
      rfl
    · rw [if_neg (by omega), if_neg e]
  · rw [if_neg h0, if_neg h0, if_neg (by omega)]
theorem ptC_len (L : List Cw) (k vw sg : Int) : (ptC L k vw sg).2.length = L.length := by
  unfold ptC
  split
  · exact List.length_set
  · rfl
theorem drC_len (L : List Cw) (b : Int) : (drC L b).length = L.length := List.length_map ..
theorem ptC_yes {L L' : List Cw} {k vw sg : Int} (h : ptC L k vw sg = (true, L')) : takesC L k vw ∧ L' = L.set k.toNat (some (vw, sg)) ∧ ∀ j, atC L' j = if j = k then some (vw, sg) else atC L j := by
  unfold ptC at h
  split at h
  · rename_i hc
    cases h
    obtain ⟨n, rfl⟩ := Int.eq_ofNat_of_zero_le hc.1.1
    refine ⟨hc, rfl, fun j => ?_⟩
    rw [Int.toNat_natCast]
    exact atC_set (by have := hc.1.2; omega) _ _
  · cases h
theorem ptC_no {L L' : List Cw} {k vw sg : Int} (h : ptC L k vw sg = (false, L')) : L' = L ∧ ¬ takesC L k vw := by
  unfold ptC at h
  split at h
  · cases h
  · rename_i hc; cases h; exact ⟨rfl, hc⟩
/-- All views are views. -/
def OkC (L : List Cw) : Prop := ∀ p, some p ∈ L → 0 ≤ p.1 ∧ p.1 < 12
theorem OkC.nil : OkC [] := fun _ h => by cases h
theorem okC_new (n : Nat) : OkC (List.replicate n none) := fun p h => by
  have := List.eq_of_mem_replicate h
  cases this
theorem OkC.put {L : List Cw} (h : OkC L) (k vw sg : Int) : OkC (ptC L k vw sg).2 := by
  unfold ptC
  split
  · rename_i hc
    intro p hp
    rcases List.mem_or_eq_of_mem_set hp with hp | hp
    · exact h p hp
    · injection hp with hp
      subst hp
      exact ⟨hc.2.1, hc.2.2.1⟩
  · exact h
theorem OkC.drop {L : List Cw} (h : OkC L) (b : Int) : OkC (drC L b) := fun p hp => by
  obtain ⟨x, hx, he⟩ := List.mem_map.1 hp
  split at he
  · cases he
  · subst he
    exact h p hx
theorem OkC.at {L : List Cw} (h : OkC L) {k : Nat} {p : Int × Int} (hx : L[k]? = some (some p)) : 0 ≤ p.1 ∧ p.1 < 12 := h p (List.mem_of_getElem? hx)
/-- Dropped up to place k. -/
theorem dr_next {L : List Cw} {b : Int} {k : Nat} {x : Cw} (hx : L[k]? = some x) : (drC (L.take k) b ++ L.drop k).set k (if belC b x then none else x) = drC (L.take (k + 1)) b ++ L.drop (k + 1) := by
  have hk := (List.getElem?_eq_some_iff.1 hx).1
  have hl : (drC (L.take k) b).length = k := by rw [drC_len, List.length_take]; omega
  rw [List.set_append_right _ _ (by omega), hl, Nat.sub_self, List.drop_eq_getElem_cons hk, List.set_cons_zero, List.take_add_one, hx]
  show _ = (List.map _ (_ ++ [x])) ++ _
  rw [List.map_append, List.append_assoc]
  rfl
theorem dr_at {L : List Cw} {b : Int} {k : Nat} {x : Cw} (hx : L[k]? = some x) : (drC (L.take k) b ++ L.drop k)[k]? = some x := by
  have hk := (List.getElem?_eq_some_iff.1 hx).1
  have hl : (drC (L.take k) b).length = k := by rw [drC_len, List.length_take]; omega
  rw [List.getElem?_append_right (by omega), hl, Nat.sub_self, List.getElem?_drop, Nat.add_zero, hx]
theorem num_next {L : List Cw} {b : Int} {k : Nat} {x : Cw} (hx : L[k]? = some x) : numC (L.take (k + 1)) b = numC (L.take k) b + if belC b x then 1 else 0 := by
  unfold numC
  rw [List.take_add_one, hx, List.filter_append, List.length_append]
  congr 1
  show (List.filter (belC b) [x]).length = _
  cases hb : belC b x <;> simp [hb]
theorem num_le (L : List Cw) (b : Int) : numC L b ≤ L.length := List.length_filter_le _ _
end Go.Proofs.Ytfbipebijelfjaa
