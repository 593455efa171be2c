/- A table of requests: its rows in order, and what each call does to them, as plain functions. -/
import Derived.Test.YtbpefdnlldpjiaaReqMath
import Derived.Test.YtbpefdnlldpjiaaBallot
namespace Go.Proofs.Ytbpefdnlldpjiaa

/-- A row of a table: a request, the nodes that told it, the clock since which it is ready. -/
structure Tr where
  rq : Rq
  bs : List Bool
  sc : Int
deriving DecidableEq
def blank (r : Rq) : Tr := ⟨r, noMarks, 0⟩
def Tr.cells (x : Tr) : List Value := [.int .i64 x.rq.cl, .int .i64 x.rq.tm, .int .i64 x.rq.kd, .int .i64 x.rq.ky, .int .i64 x.rq.vl, .int .i64 x.rq.sg, .int .u16 (maskS x.bs : Nat), .int .i64 x.sc]
def rqs (L : List Tr) : List Rq := L.map Tr.rq
/-- Where a request stands, or would have to. -/
def seat : List Tr → Rq → Nat
  | [], _ => 0
  | x :: L, r => if cmpR x.rq r < 0 then seat L r + 1 else 0
def had (L : List Tr) (r : Rq) : Bool := decide (r ∈ rqs L)
/-- Its row, a blank one if there is none. -/
def rowOf : List Tr → Rq → Tr
  | [], r => blank r
  | x :: L, r => if x.rq = r then x else rowOf L r
def pend (L : List Tr) (c : Int) : Nat := L.countP fun x => decide (x.rq.cl = c)
def putAt (L : List Tr) (k : Nat) (x : Tr) : List Tr := L.take k ++ x :: L.drop k
def upd (L : List Tr) (x : Tr) : List Tr := if had L x.rq = true then L.set (seat L x.rq) x else putAt L (seat L x.rq) x

theorem seat_le : ∀ (L : List Tr) (r : Rq), seat L r ≤ L.length
  | [], _ => Nat.le_refl _
  | x :: L, r => by
    have := seat_le L r
    unfold seat
    split <;> simp <;> omega
theorem seat_is : ∀ {L : List Tr} {r : Rq} {k : Nat}, k ≤ L.length → (∀ j, j < k → ∃ x, L[j]? = some x ∧ cmpR x.rq r < 0) → (∀ x, L[k]? = some x → 0 ≤ cmpR x.rq r) → seat L r = k
  | [], r, k, hk, _, _ => by simp at hk; subst hk; rfl
  | x :: L, r, 0, _, _, hh => by
    have := hh x rfl
    unfold seat
    rw [if_neg (by omega)]
  | x :: L, r, k + 1, hk, hl, hh => by
    obtain ⟨y, hy, hc⟩ := hl 0 (by omega)
    obtain rfl : x = y := by simpa using hy
    unfold seat
    rw [if_pos hc, seat_is (L := L) (r := r) (k := k) (by simpa using hk) (fun j hj => by simpa using hl (j + 1) (by omega)) (fun y hy => hh y (by simpa using hy))]
theorem seat_low : ∀ {L : List Tr} {r : Rq} {j : Nat}, j < seat L r → ∃ x, L[j]? = some x ∧ cmpR x.rq r < 0
  | [], _, _, h => absurd h (by simp [seat])
  | x :: L, r, j, h => by
    unfold seat at h
    by_cases hc : cmpR x.rq r < 0
    · rw [if_pos hc] at h
      cases j with
      | zero => exact ⟨x, rfl, hc⟩
      | succ j => simpa using seat_low (L := L) (r := r) (j := j) (by omega)
    · rw [if_neg hc] at h; omega
theorem seat_high : ∀ {L : List Tr} {r : Rq} {x : Tr}, L[seat L r]? = some x → 0 ≤ cmpR x.rq r
  | [], _, _, h => by simp at h
  | y :: L, r, x, h => by
    unfold seat at h
    by_cases hc : cmpR y.rq r < 0
    · rw [if_pos hc] at h
      exact seat_high (L := L) (r := r) (by simpa using h)
    · rw [if_neg hc] at h
      obtain rfl : y = x := by simpa using h
      omega
section
variable {L : List Tr} {r : Rq}
theorem rqs_get {k : Nat} {x : Tr} (h : L[k]? = some x) : (rqs L)[k]? = some x.rq := by simp [rqs, h]
theorem rqs_len (L : List Tr) : (rqs L).length = L.length := by simp [rqs]
theorem ris_lt (hs : Ris (rqs L)) {i j : Nat} {x y : Tr} (hij : i < j) (hx : L[i]? = some x) (hy : L[j]? = some y) : cmpR x.rq y.rq < 0 := by
  obtain ⟨h1, e1⟩ := List.getElem?_eq_some_iff.1 (rqs_get hx)
  obtain ⟨h2, e2⟩ := List.getElem?_eq_some_iff.1 (rqs_get hy)
  have := List.pairwise_iff_getElem.1 hs i j h1 h2 hij
  rwa [e1, e2] at this
theorem ris_one (hs : Ris (rqs L)) {i j : Nat} {x y : Tr} (hx : L[i]? = some x) (hy : L[j]? = some y) (e : x.rq = y.rq) : i = j := by
  rcases Nat.lt_trichotomy i j with h | h | h
  · have := ris_lt hs h hx hy
    rw [e, cmpR_self] at this; omega
  · exact h
  · have := ris_lt hs h hy hx
    rw [e, cmpR_self] at this; omega
theorem had_iff : had L r = true ↔ ∃ x, x ∈ L ∧ x.rq = r := by
  unfold had rqs
  rw [decide_eq_true_iff, List.mem_map]
theorem had_no : had L r = false ↔ ∀ x, x ∈ L → x.rq ≠ r := by
  rw [← Bool.not_eq_true, had_iff]
  exact ⟨fun h x hx e => h ⟨x, hx, e⟩, fun h ⟨x, hx, e⟩ => h x hx e⟩
theorem seat_mem (hs : Ris (rqs L)) {i : Nat} {x : Tr} (hx : L[i]? = some x) (e : x.rq = r) : seat L r = i := by
  refine seat_is (by have := (List.getElem?_eq_some_iff.1 hx).1; omega) (fun j hj => ?_) (fun y hy => ?_)
  · have hl := (List.getElem?_eq_some_iff.1 hx).1
    have hy : L[j]? = some L[j] := List.getElem?_eq_getElem (by omega)
    exact ⟨_, hy, e ▸ ris_lt hs hj hy hx⟩
  · rw [hx] at hy
    cases hy
    rw [e, cmpR_self]
    exact Int.le_refl 0
theorem had_at (hs : Ris (rqs L)) (h : had L r = true) : ∃ x, L[seat L r]? = some x ∧ x.rq = r ∧ rowOf L r = x := by
  obtain ⟨x, hx, e⟩ := had_iff.1 h
  obtain ⟨i, hi⟩ := List.getElem?_of_mem hx
  refine ⟨x, by rw [seat_mem hs hi e]; exact hi, e, ?_⟩
  clear h
  induction L generalizing i with
  | nil => simp at hx
  | cons y L ih =>
    unfold rowOf
    by_cases hy : y.rq = r
    · rw [if_pos hy]
      have := ris_one hs (i := 0) (j := i) (x := y) rfl hi (by rw [hy, e])
      subst this
      simpa using hi
    · rw [if_neg hy]
      cases i with
      | zero => exact absurd (by rw [← e]; congr 1; simpa using hi) hy
      | succ i => exact ih (List.pairwise_cons.1 hs).2 (List.mem_of_getElem? (by simpa using hi)) i (by simpa using hi)
theorem rowOf_mem (hs : Ris (rqs L)) {x : Tr} (hx : x ∈ L) : rowOf L x.rq = x := by
  obtain ⟨y, h1, h2, h3⟩ := had_at hs (had_iff.2 ⟨x, hx, rfl⟩)
  obtain ⟨i, hi⟩ := List.getElem?_of_mem hx
  rw [seat_mem hs hi rfl, hi] at h1
  cases h1
  exact h3
theorem rowOf_no (h : had L r = false) : rowOf L r = blank r := by
  have hn := had_no.1 h
  clear h
  induction L with
  | nil => rfl
  | cons y L ih =>
    unfold rowOf
    rw [if_neg (hn y (by simp))]
    exact ih fun x hx => hn x (by simp [hx])
theorem rowOf_rq (L : List Tr) (r : Rq) : (rowOf L r).rq = r := by
  induction L with
  | nil => rfl
  | cons y L ih =>
    unfold rowOf
    split
    · assumption
    · exact ih
theorem rowOf_in (h : had L r = true) : rowOf L r ∈ L := by
  induction L with
  | nil => simp [had, rqs] at h
  | cons y L ih =>
    unfold rowOf
    by_cases hy : y.rq = r
    · rw [if_pos hy]; simp
    · rw [if_neg hy]
      have : had L r = true := by
        obtain ⟨x, hx, e⟩ := had_iff.1 h
        rcases List.mem_cons.1 hx with rfl | hx
        · exact absurd e hy
        · exact had_iff.2 ⟨x, hx, e⟩
      exact List.mem_cons_of_mem _ (ih this)
theorem rqs_put (L : List Tr) (k : Nat) (x : Tr) : rqs (putAt L k x) = putS x.rq (rqs L) k := by simp [rqs, putAt, putS, List.map_take, List.map_drop]
theorem place_seat (hs : Ris (rqs L)) (h : had L r = false) : place r (rqs L) (rqs L).length = seat L r := by
  obtain ⟨k, hk⟩ : ∃ k, place r (rqs L) (rqs L).length = k := ⟨_, rfl⟩
  have hlow := place_low (r := r) (out := rqs L) (Nat.le_refl _)
  have hhigh := place_high (r := r) (out := rqs L) (Nat.le_refl _)
  have hkl := place_le r (rqs L) (rqs L).length
  rw [hk] at hlow hhigh hkl ⊢
  rw [rqs_len] at hkl hhigh
  refine (seat_is hkl (fun j hj => ?_) (fun x hx => ?_)).symm
  · obtain ⟨y, hy, hc⟩ := hlow (by omega)
    have hj' : L[j]? = some L[j] := List.getElem?_eq_getElem (by omega)
    have hk' : L[k - 1]? = some L[k - 1] := List.getElem?_eq_getElem (by omega)
    have hy' := rqs_get hk'
    rw [hy] at hy'
    injection hy' with hy'
    have hlt : cmpR L[k - 1].rq r < 0 := by
      have h0 : cmpR r L[k - 1].rq ≠ 0 := fun e => had_no.1 h _ (List.getElem_mem (by omega)) (cmpR_zero e).symm
      rw [← hy'] at h0 ⊢
      rw [cmpR_anti]; omega
    refine ⟨_, hj', ?_⟩
    by_cases e : j = k - 1
    · subst e; exact hlt
    · exact cmpR_trans (ris_lt hs (by omega) hj' hk') hlt
  · obtain ⟨y, hy, hc⟩ := hhigh k (Nat.le_refl _) (List.getElem?_eq_some_iff.1 hx).1
    rw [rqs_get hx] at hy
    cases hy
    rw [cmpR_anti]; omega
theorem set_rqs {x y : Tr} {k : Nat} (h : L[k]? = some y) (e : y.rq = x.rq) : rqs (L.set k x) = rqs L := by
  unfold rqs
  rw [List.map_set]
  apply List.ext_getElem?
  intro j
  by_cases hj : k = j
  · subst hj
    rw [List.getElem?_set_self (by rw [List.length_map]; exact (List.getElem?_eq_some_iff.1 h).1), List.getElem?_map, h, ← e]
    rfl
  · rw [List.getElem?_set_ne hj]
theorem upd_ris (hs : Ris (rqs L)) (x : Tr) : Ris (rqs (upd L x)) := by
  unfold upd
  by_cases h : had L x.rq = true
  · obtain ⟨y, h1, h2, _⟩ := had_at hs h
    rw [if_pos h, set_rqs h1 h2]
    exact hs
  · rw [if_neg h]
    rw [Bool.not_eq_true] at h
    have h3 := hs.ins x.rq
    unfold insS at h3
    rw [if_neg (of_decide_eq_false h), place_seat hs h] at h3
    rw [rqs_put]
    exact h3
theorem mem_upd (hs : Ris (rqs L)) (x y : Tr) : y ∈ upd L x ↔ y = x ∨ (y ∈ L ∧ y.rq ≠ x.rq) := by
  unfold upd
  by_cases h : had L x.rq = true
  · obtain ⟨z, h1, h2, _⟩ := had_at hs h
    have hl := (List.getElem?_eq_some_iff.1 h1).1
    rw [if_pos h]
    constructor
    · intro hy
      obtain ⟨j, hj⟩ := List.getElem?_of_mem hy
      rw [List.getElem?_set] at hj
      by_cases e : seat L x.rq = j
      · rw [if_pos e, if_pos (e ▸ hl)] at hj
        cases hj
        exact Or.inl rfl
      · rw [if_neg e] at hj
        exact Or.inr ⟨List.mem_of_getElem? hj, fun e2 => e (ris_one hs h1 hj (by rw [h2, e2]))⟩
    · rintro (rfl | ⟨hy, hne⟩)
      · exact List.mem_of_getElem? (i := seat L y.rq) (by rw [List.getElem?_set_self hl])
      · obtain ⟨j, hj⟩ := List.getElem?_of_mem hy
        refine List.mem_of_getElem? (i := j) ?_
        rw [List.getElem?_set_ne (fun e => ?_)]
        · exact hj
        · subst e
          rw [h1] at hj
          cases hj
          exact hne h2
  · rw [if_neg h]
    rw [Bool.not_eq_true] at h
    have hn := had_no.1 h
    unfold putAt
    rw [List.mem_append, List.mem_cons]
    constructor
    · rintro (h | rfl | h)
      · exact Or.inr ⟨List.mem_of_mem_take h, hn _ (List.mem_of_mem_take h)⟩
      · exact Or.inl rfl
      · exact Or.inr ⟨List.mem_of_mem_drop h, hn _ (List.mem_of_mem_drop h)⟩
    · rintro (rfl | ⟨h, _⟩)
      · exact Or.inr (Or.inl rfl)
      · rw [← List.take_append_drop (seat L x.rq) L, List.mem_append] at h
        rcases h with h | h
        · exact Or.inl h
        · exact Or.inr (Or.inr h)
theorem had_upd (hs : Ris (rqs L)) (x : Tr) (r : Rq) : had (upd L x) r = (decide (r = x.rq) || had L r) := by
  rw [Bool.eq_iff_iff, had_iff, Bool.or_eq_true, decide_eq_true_iff, had_iff]
  constructor
  · rintro ⟨y, hy, rfl⟩
    rcases (mem_upd hs x y).1 hy with rfl | ⟨hy, _⟩
    · exact Or.inl rfl
    · exact Or.inr ⟨y, hy, rfl⟩
  · rintro (rfl | ⟨y, hy, rfl⟩)
    · exact ⟨x, (mem_upd hs x x).2 (Or.inl rfl), rfl⟩
    · by_cases e : y.rq = x.rq
      · exact ⟨x, (mem_upd hs x x).2 (Or.inl rfl), e.symm⟩
      · exact ⟨y, (mem_upd hs x y).2 (Or.inr ⟨hy, e⟩), rfl⟩
theorem rowOf_upd (hs : Ris (rqs L)) (x : Tr) (r : Rq) : rowOf (upd L x) r = if r = x.rq then x else rowOf L r := by
  by_cases e : r = x.rq
  · subst e
    rw [if_pos rfl]
    exact rowOf_mem (upd_ris hs x) ((mem_upd hs x x).2 (Or.inl rfl))
  · rw [if_neg e]
    by_cases h : had L r = true
    · have h2 := rowOf_in h
      have := rowOf_mem (upd_ris hs x) ((mem_upd hs x (rowOf L r)).2 (Or.inr ⟨h2, by rw [rowOf_rq]; exact e⟩))
      rwa [rowOf_rq] at this
    · rw [Bool.not_eq_true] at h
      rw [rowOf_no h, rowOf_no]
      rw [had_upd hs, h, decide_eq_false e]
      rfl
theorem len_upd (L : List Tr) (x : Tr) : (upd L x).length = L.length + if had L x.rq = true then 0 else 1 := by
  unfold upd
  split
  · rw [List.length_set]; rfl
  · unfold putAt
    have := seat_le L x.rq
    rw [List.length_append, List.length_take, List.length_cons, List.length_drop]; omega
theorem pend_rqs (L : List Tr) (c : Int) : pend L c = (rqs L).countP fun r => decide (r.cl = c) := by
  unfold pend rqs
  rw [List.countP_map]
  rfl
theorem pend_upd (hs : Ris (rqs L)) (x : Tr) (c : Int) : pend (upd L x) c = pend L c + if had L x.rq = false ∧ x.rq.cl = c then 1 else 0 := by
  by_cases h : had L x.rq = true
  · obtain ⟨y, h1, h2, _⟩ := had_at hs h
    rw [if_neg (by rw [h]; simp), pend_rqs, pend_rqs]
    unfold upd
    rw [if_pos h, set_rqs h1 h2]
    rfl
  · rw [Bool.not_eq_true] at h
    rw [pend_rqs, pend_rqs]
    unfold upd
    rw [if_neg (by rw [h]; simp), rqs_put]
    unfold putS
    rw [List.countP_append, List.countP_cons]
    have := List.countP_append (p := fun r : Rq => decide (r.cl = c)) (l₁ := (rqs L).take (seat L x.rq)) (l₂ := (rqs L).drop (seat L x.rq))
    rw [List.take_append_drop] at this
    by_cases e : x.rq.cl = c
    · rw [if_pos (by simpa using e), if_pos ⟨h, e⟩]; omega
    · rw [if_neg (by simpa using e), if_neg (fun h => e h.2)]; omega
end
/-- A row in which one more node has told. -/
def mark (f : Int) (x : Tr) (nd ck : Int) : Tr × Bool :=
  if marked x.bs nd = true then (x, false)
  else if (cnt (bitS x.bs nd) : Int) = f + 1 then (⟨x.rq, bitS x.bs nd, ck⟩, true) else (⟨x.rq, bitS x.bs nd, x.sc⟩, false)
theorem mark_rq (f : Int) (x : Tr) (nd ck : Int) : (mark f x nd ck).1.rq = x.rq := by
  unfold mark
  split
  · rfl
  · split <;> rfl
theorem bit_len (bs : List Bool) (k : Int) : (bitS bs k).length = bs.length := by unfold bitS; split <;> simp
theorem mark_len (f : Int) (x : Tr) (nd ck : Int) : (mark f x nd ck).1.bs.length = x.bs.length := by
  unfold mark
  split
  · rfl
  · split <;> exact bit_len _ _
/-- What is true of every table's rows. -/
structure Fine (f n : Int) (L : List Tr) : Prop where
  f1 : 1 ≤ f
  f4 : f ≤ 4
  n1 : 1 ≤ n
  n4 : n ≤ 4
  ris : Ris (rqs L)
  len : ∀ x ∈ L, x.bs.length = 13
  cl : ∀ x ∈ L, 0 ≤ x.rq.cl ∧ x.rq.cl < n
  four : ∀ c, pend L c ≤ 4
theorem pend_all : ∀ (L : List Tr), (∀ x ∈ L, 0 ≤ x.rq.cl ∧ x.rq.cl < 4) → L.length = pend L 0 + pend L 1 + pend L 2 + pend L 3
  | [], _ => rfl
  | x :: L, h => by
    have ih := pend_all L fun y hy => h y (by simp [hy])
    have hx := h x (by simp)
    unfold pend at ih ⊢
    simp only [List.countP_cons, List.length_cons, ih]
    have : x.rq.cl = 0 ∨ x.rq.cl = 1 ∨ x.rq.cl = 2 ∨ x.rq.cl = 3 := by omega
    rcases this with e | e | e | e <;> (rw [e]; simp; omega)
section
variable {f n : Int} {L : List Tr}
theorem Fine.most (h : Fine f n L) : L.length ≤ 16 := by
  have := pend_all L fun x hx => by
    have := h.cl x hx
    have := h.n4
    exact ⟨by omega, by omega⟩
  have := h.four 0
  have := h.four 1
  have := h.four 2
  have := h.four 3
  omega
theorem fine_new (h1 : 1 ≤ f) (h4 : f ≤ 4) (g1 : 1 ≤ n) (g4 : n ≤ 4) : Fine f n [] := ⟨h1, h4, g1, g4, List.Pairwise.nil, by simp, by simp, fun c => by simp [pend]⟩
theorem rowOf_len (h : ∀ x ∈ L, x.bs.length = 13) (r : Rq) : (rowOf L r).bs.length = 13 := by
  by_cases hh : had L r = true
  · exact h _ (rowOf_in hh)
  · rw [Bool.not_eq_true] at hh
    rw [rowOf_no hh]; rfl
/-- What Put does. -/
def putT (f n : Int) (L : List Tr) (r : Rq) (nd ck : Int) : (Bool × Bool × Int) × List Tr :=
  if 0 ≤ r.cl ∧ r.cl < n ∧ 0 ≤ nd ∧ nd < 3 * f + 1 then
    if had L r = false ∧ pend L r.cl = 4 then ((false, false, 3), L)
    else ((!had L r, (mark f (rowOf L r) nd ck).2, 0), upd L (mark f (rowOf L r) nd ck).1)
  else ((false, false, 1), L)
theorem Fine.put (h : Fine f n L) (r : Rq) (nd ck : Int) : Fine f n (putT f n L r nd ck).2 := by
  unfold putT
  split
  · rename_i hc
    split
    · exact h
    · rename_i hp
      have hq : (mark f (rowOf L r) nd ck).1.rq = r := by rw [mark_rq, rowOf_rq]
      refine ⟨h.f1, h.f4, h.n1, h.n4, upd_ris h.ris _, fun x hx => ?_, fun x hx => ?_, fun c => ?_⟩
      · rcases (mem_upd h.ris _ x).1 hx with rfl | ⟨hx, _⟩
        · rw [mark_len, rowOf_len h.len]
        · exact h.len x hx
      · rcases (mem_upd h.ris _ x).1 hx with rfl | ⟨hx, _⟩
        · rw [hq]; exact ⟨hc.1, hc.2.1⟩
        · exact h.cl x hx
      · rw [pend_upd h.ris, hq]
        have := h.four c
        split
        · rename_i h2
          obtain ⟨h2, rfl⟩ := h2
          have : pend L r.cl ≠ 4 := fun e => hp ⟨h2, e⟩
          show _ + 1 ≤ 4
          omega
        · exact this
  · exact h
def dropT (L : List Tr) (c t : Int) : List Tr := L.filter fun x => !(decide (x.rq.cl = c) && decide (x.rq.tm ≤ t))
theorem Fine.drop (h : Fine f n L) (c t : Int) : Fine f n (dropT L c t) := by
  refine ⟨h.f1, h.f4, h.n1, h.n4, ?_, fun x hx => h.len x (List.mem_filter.1 hx).1, fun x hx => h.cl x (List.mem_filter.1 hx).1, fun d => Nat.le_trans ?_ (h.four d)⟩
  · exact List.Pairwise.sublist (List.Sublist.map _ List.filter_sublist) h.ris
  · exact List.Sublist.countP_le List.filter_sublist
end
/-- What Since, Has, Ready tell. -/
def isReady (f : Int) (x : Tr) : Bool := decide (f + 1 ≤ (cnt x.bs : Int))
def sinceT (f : Int) (L : List Tr) (r : Rq) : Int × Bool := if had L r = true ∧ isReady f (rowOf L r) = true then ((rowOf L r).sc, true) else (0, false)
def hasT (L : List Tr) (r : Rq) (nd : Int) : Bool := had L r && marked (rowOf L r).bs nd
def readyT (f : Int) (L : List Tr) : List Rq := rqs (L.filter (isReady f))
end Go.Proofs.Ytbpefdnlldpjiaa
