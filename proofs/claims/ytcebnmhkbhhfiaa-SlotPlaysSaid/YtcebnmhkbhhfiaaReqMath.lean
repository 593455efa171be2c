/- Requests: when one is right, their order, rows in order. Nothing of the program. -/
import Derived.Test.YtcebnmhkbhhfiaaForms
namespace Go.Proofs.Ytcebnmhkbhhfiaa

def validS (r : Rq) (n : Int) : Bool := decide (0 ≤ r.cl ∧ r.cl < n ∧ 1 ≤ r.tm ∧ r.tm ≤ 1048576 ∧ 1 ≤ r.kd ∧ r.kd ≤ 5 ∧ 0 ≤ r.ky ∧ r.ky < 64 ∧ -2147483648 < r.vl ∧ r.vl < 2147483648 ∧ 0 ≤ r.sg ∧ r.sg < 1099511627776 ∧ (r.kd = 1 ∨ r.kd = 3 ∨ r.vl = 0) ∧ (r.kd ≠ 5 ∨ r.ky = 0))
def Rq.key (r : Rq) : List Int := [r.cl, r.tm, r.kd, r.ky, r.vl, r.sg]
theorem Rq.ext_key {a b : Rq} (h : a.key = b.key) : a = b := by
  cases a; cases b
  simp [Rq.key] at h
  obtain ⟨rfl, rfl, rfl, rfl, rfl, rfl⟩ := h
  rfl
def cmpL : List Int → List Int → Int
  | x :: l, y :: m => if x < y then -1 else if y < x then 1 else cmpL l m
  | _, _ => 0
theorem cmpL_anti : ∀ l m : List Int, cmpL m l = -cmpL l m
  | [], [] => rfl
  | [], _ :: _ => rfl
  | _ :: _, [] => rfl
  | x :: l, y :: m => by
    have := cmpL_anti l m
    unfold cmpL
    split
    · rw [if_neg (by omega)]
    · split
      · rfl
      · exact this
theorem cmpL_self : ∀ l : List Int, cmpL l l = 0
  | [] => rfl
  | x :: l => by
    unfold cmpL
    rw [if_neg (by omega), if_neg (by omega)]
    exact cmpL_self l
theorem cmpL_zero : ∀ {l m : List Int}, l.length = m.length → cmpL l m = 0 → l = m
  | [], [], _, _ => rfl
  | x :: l, y :: m, hl, h => by
    unfold cmpL at h
    split at h
    · omega
    · split at h
      · omega
      · rw [cmpL_zero (l := l) (m := m) (by simpa using hl) h, show x = y by omega]
theorem cmpL_range (l m : List Int) : cmpL l m = -1 ∨ cmpL l m = 0 ∨ cmpL l m = 1 := by
  induction l generalizing m with
  | nil => exact Or.inr (Or.inl (by cases m <;> rfl))
  | cons x l ih =>
    cases m with
    | nil => exact Or.inr (Or.inl rfl)
    | cons y m =>
      unfold cmpL
      split
      · exact Or.inl rfl
      · split
        · exact Or.inr (Or.inr rfl)
        · exact ih m
theorem cmpL_trans : ∀ {l m n : List Int}, l.length = m.length → m.length = n.length → cmpL l m ≤ 0 → cmpL m n ≤ 0 → cmpL l n ≤ 0 ∧ (cmpL l m < 0 ∨ cmpL m n < 0 → cmpL l n < 0)
  | [], [], [], _, _, _, _ => by simp [cmpL]
  | x :: l, y :: m, z :: n, h1, h2, h3, h4 => by
    have ih := cmpL_trans (l := l) (m := m) (n := n) (by simpa using h1) (by simpa using h2)
    unfold cmpL at h3 h4 ⊢
    by_cases a : x < y
    · by_cases b : y < z
      · rw [if_pos (by omega : x < z)]; omega
      · rw [if_neg b] at h4
        by_cases c : z < y
        · rw [if_pos c] at h4; omega
        · rw [if_pos (by omega : x < z)]; omega
    · rw [if_neg a] at h3
      by_cases a' : y < x
      · rw [if_pos a'] at h3; omega
      · rw [if_neg a'] at h3
        obtain rfl : x = y := by omega
        by_cases b : x < z
        · rw [if_pos b]; omega
        · rw [if_neg b] at h4
          by_cases c : z < x
          · rw [if_pos c] at h4; omega
          · rw [if_neg c] at h4
            obtain ⟨i1, i2⟩ := ih h3 h4
            rw [if_neg b, if_neg c]
            refine ⟨i1, fun h => i2 ?_⟩
            rw [if_neg (Int.lt_irrefl x), if_neg (Int.lt_irrefl x), if_neg b, if_neg c] at h
            exact h
def cmpR (a b : Rq) : Int := cmpL a.key b.key
theorem cmpR_anti (a b : Rq) : cmpR b a = -cmpR a b := cmpL_anti _ _
theorem cmpR_self (a : Rq) : cmpR a a = 0 := cmpL_self _
theorem cmpR_zero {a b : Rq} (h : cmpR a b = 0) : a = b := Rq.ext_key (cmpL_zero rfl h)
theorem cmpR_range (a b : Rq) : cmpR a b = -1 ∨ cmpR a b = 0 ∨ cmpR a b = 1 := cmpL_range _ _
theorem cmpR_trans {a b c : Rq} (h1 : cmpR a b < 0) (h2 : cmpR b c < 0) : cmpR a c < 0 := (cmpL_trans (l := a.key) (m := b.key) (n := c.key) rfl rfl (Int.le_of_lt h1) (Int.le_of_lt h2)).2 (Or.inl h1)
theorem cmpR_le {a b c : Rq} (h1 : cmpR a b ≤ 0) (h2 : cmpR b c ≤ 0) : cmpR a c ≤ 0 := (cmpL_trans (l := a.key) (m := b.key) (n := c.key) rfl rfl h1 h2).1
theorem cmpR_ge {a b c : Rq} (h1 : 0 ≤ cmpR a b) (h2 : 0 ≤ cmpR b c) : 0 ≤ cmpR a c := by
  have := cmpR_le (a := c) (b := b) (c := a) (by rw [cmpR_anti]; omega) (by rw [cmpR_anti]; omega)
  rw [cmpR_anti] at this
  omega
/-- A row in order, each once. -/
def Ris (l : List Rq) : Prop := l.Pairwise fun a b => cmpR a b < 0
theorem Ris.nodup {l : List Rq} (h : Ris l) : l.Nodup := List.Pairwise.imp (fun {a b} hab e => by rw [e, cmpR_self] at hab; omega) h
/-- Two rows in order with the same requests are one. -/
theorem Ris.unique : ∀ {l m : List Rq}, Ris l → Ris m → (∀ r, r ∈ l ↔ r ∈ m) → l = m
  | [], [], _, _, _ => rfl
  | [], y :: m, _, _, h => absurd ((h y).2 (by simp)) (by simp)
  | x :: l, [], _, _, h => absurd ((h x).1 (by simp)) (by simp)
  | x :: l, y :: m, hl, hm, h => by
    have h1 := List.pairwise_cons.1 hl
    have h2 := List.pairwise_cons.1 hm
    have hxy : x = y := by
      rcases List.mem_cons.1 ((h x).1 (by simp)) with e | e
      · exact e
      · rcases List.mem_cons.1 ((h y).2 (by simp)) with e' | e'
        · exact e'.symm
        · have a := h2.1 x e
          have b := h1.1 y e'
          rw [cmpR_anti] at a
          omega
    subst hxy
    rw [Ris.unique (l := l) (m := m) h1.2 h2.2 fun r => by
      have hr := h r
      constructor
      · intro hl'
        rcases List.mem_cons.1 (hr.1 (by simp [hl'])) with e | e
        · subst e; have := h1.1 r hl'; rw [cmpR_self] at this; omega
        · exact e
      · intro hm'
        rcases List.mem_cons.1 (hr.2 (by simp [hm'])) with e | e
        · subst e; have := h2.1 r hm'; rw [cmpR_self] at this; omega
        · exact e]
/-- Where a request goes: behind the last one that it is not below. -/
def place (r : Rq) (out : List Rq) : Nat → Nat
  | 0 => 0
  | k + 1 => match out[k]? with
    | some x => if cmpR r x < 0 then place r out k else k + 1
    | none => k + 1
theorem place_le (r : Rq) (out : List Rq) : ∀ k, place r out k ≤ k
  | 0 => Nat.le_refl _
  | k + 1 => by
    have := place_le r out k
    unfold place
    split
    · split <;> omega
    · omega
def putS (r : Rq) (out : List Rq) (k : Nat) : List Rq := out.take k ++ r :: out.drop k
def insS (out : List Rq) (r : Rq) : List Rq := if r ∈ out then out else putS r out (place r out out.length)
def orderS (l : List Rq) : List Rq := l.foldl insS []
theorem orderS_snoc (l : List Rq) (r : Rq) : orderS (l ++ [r]) = insS (orderS l) r := by simp [orderS, List.foldl_append]
theorem place_low {r : Rq} {out : List Rq} : ∀ {k : Nat}, k ≤ out.length → 0 < place r out k → ∃ x, out[place r out k - 1]? = some x ∧ 0 ≤ cmpR r x
  | 0, _, h => absurd h (by simp [place])
  | k + 1, hk, h => by
    have hx : out[k]? = some out[k] := List.getElem?_eq_getElem (by omega)
    unfold place at h ⊢
    rw [hx] at h ⊢
    by_cases hc : cmpR r out[k] < 0
    · simp only [if_pos hc] at h ⊢
      exact place_low (by omega) h
    · simp only [if_neg hc]
      exact ⟨_, hx, by omega⟩
theorem place_high {r : Rq} {out : List Rq} : ∀ {k : Nat}, k ≤ out.length → ∀ j, place r out k ≤ j → j < k → ∃ x, out[j]? = some x ∧ cmpR r x < 0
  | 0, _, j, _, h => absurd h (by omega)
  | k + 1, hk, j, h1, h2 => by
    have hx : out[k]? = some out[k] := List.getElem?_eq_getElem (by omega)
    unfold place at h1
    rw [hx] at h1
    by_cases hc : cmpR r out[k] < 0
    · simp only [if_pos hc] at h1
      by_cases hj : j = k
      · subst hj; exact ⟨_, hx, hc⟩
      · exact place_high (by omega) j h1 (by omega)
    · simp only [if_neg hc] at h1
      omega
theorem mem_putS {r x : Rq} {out : List Rq} {k : Nat} : x ∈ putS r out k ↔ x = r ∨ x ∈ out := by
  unfold putS
  rw [List.mem_append, List.mem_cons]
  constructor
  · rintro (h | rfl | h)
    · exact Or.inr (List.mem_of_mem_take h)
    · exact Or.inl rfl
    · exact Or.inr (List.mem_of_mem_drop h)
  · rintro (rfl | h)
    · exact Or.inr (Or.inl rfl)
    · rw [← List.take_append_drop k out, List.mem_append] at h
      rcases h with h | h
      · exact Or.inl h
      · exact Or.inr (Or.inr h)
theorem mem_insS {r x : Rq} {out : List Rq} : x ∈ insS out r ↔ x = r ∨ x ∈ out := by
  unfold insS
  split
  · rename_i h
    exact ⟨Or.inr, fun hx => hx.elim (fun e => e ▸ h) id⟩
  · exact mem_putS
theorem Ris.ins {out : List Rq} (h : Ris out) (r : Rq) : Ris (insS out r) := by
  unfold insS
  split
  · exact h
  · rename_i hr
    obtain ⟨k, hk⟩ : ∃ k, place r out out.length = k := ⟨_, rfl⟩
    have hlow := place_low (r := r) (out := out) (Nat.le_refl _)
    have hhigh := place_high (r := r) (out := out) (Nat.le_refl _)
    have hkl := place_le r out out.length
    rw [hk] at hlow hhigh hkl ⊢
    have hsplit : Ris (out.take k ++ out.drop k) := by rw [List.take_append_drop]; exact h
    obtain ⟨p1, p2, p3⟩ := List.pairwise_append.1 hsplit
    have hb : ∀ x ∈ out.take k, cmpR x r < 0 := fun x hx => by
      obtain ⟨j, hj, e⟩ := List.mem_iff_getElem.1 hx
      have hjk : j < k := by rw [List.length_take] at hj; omega
      obtain ⟨y, hy, hyc⟩ := hlow (by omega)
      have hyo : y ∈ out := List.mem_of_getElem? hy
      have hyr : cmpR y r < 0 := by
        have h0 : cmpR r y ≠ 0 := fun e => hr (cmpR_zero e ▸ hyo)
        rw [cmpR_anti]; omega
      by_cases hjy : j = k - 1
      · have : out[j]? = some x := by rw [← e, List.getElem_take]; exact List.getElem?_eq_getElem (by omega)
        rw [hjy, hy] at this
        cases this
        exact hyr
      · have hx' : out[j]? = some x := by rw [← e, List.getElem_take]; exact List.getElem?_eq_getElem (by omega)
        obtain ⟨h1, e1⟩ := List.getElem?_eq_some_iff.1 hx'
        obtain ⟨h2, e2⟩ := List.getElem?_eq_some_iff.1 hy
        have := List.pairwise_iff_getElem.1 h j (k - 1) h1 h2 (by omega)
        rw [e1, e2] at this
        exact cmpR_trans this hyr
    have ha : ∀ x ∈ out.drop k, cmpR r x < 0 := fun x hx => by
      obtain ⟨j, hj, e⟩ := List.mem_iff_getElem.1 hx
      rw [List.length_drop] at hj
      obtain ⟨y, hy, hyc⟩ := hhigh (k + j) (by omega) (by omega)
      rw [List.getElem_drop] at e
      rw [List.getElem?_eq_getElem (by omega), e] at hy
      cases hy
      exact hyc
    unfold putS
    refine List.pairwise_append.2 ⟨p1, List.pairwise_cons.2 ⟨ha, p2⟩, fun a ha' b hb' => ?_⟩
    rcases List.mem_cons.1 hb' with rfl | hb'
    · exact hb a ha'
    · exact p3 a ha' b hb'
theorem ris_order (l : List Rq) : Ris (orderS l) ∧ ∀ r, r ∈ orderS l ↔ r ∈ l := by
  have key : ∀ (l : List Rq) (out : List Rq), Ris out → Ris (l.foldl insS out) ∧ ∀ r, r ∈ l.foldl insS out ↔ r ∈ out ∨ r ∈ l := by
    intro l
    induction l with
    | nil => intro out h; exact ⟨h, fun r => by simp⟩
    | cons x l ih =>
      intro out h
      obtain ⟨h1, h2⟩ := ih (insS out x) (h.ins x)
      refine ⟨h1, fun r => ?_⟩
      rw [List.foldl_cons, h2, mem_insS, List.mem_cons]
      constructor
      · rintro ((e | e) | e)
        · exact Or.inr (Or.inl e)
        · exact Or.inl e
        · exact Or.inr (Or.inr e)
      · rintro (e | e | e)
        · exact Or.inl (Or.inr e)
        · exact Or.inl (Or.inl e)
        · exact Or.inr e
  obtain ⟨h1, h2⟩ := key l [] List.Pairwise.nil
  exact ⟨h1, fun r => by have := h2 r; simpa [orderS] using this⟩
/-- A row in order with the same requests is what they are in order. -/
theorem orderS_is {l m : List Rq} (h : Ris m) (hm : ∀ r, r ∈ m ↔ r ∈ l) : m = orderS l :=
  Ris.unique h (ris_order l).1 fun r => by rw [hm, (ris_order l).2]
theorem orderS_len (l : List Rq) : (orderS l).length ≤ l.length := by
  have key : ∀ (l : List Rq) (out : List Rq), (l.foldl insS out).length ≤ out.length + l.length := by
    intro l
    induction l with
    | nil => intro out; simp
    | cons x l ih =>
      intro out
      have := ih (insS out x)
      have h2 : (insS out x).length ≤ out.length + 1 := by
        unfold insS putS
        split
        · omega
        · simp; omega
      simp only [List.foldl_cons, List.length_cons]
      omega
  have := key l []
  simpa [orderS] using this
/-- Are requests in order, each once? -/
def risesR : List Rq → Bool
  | a :: b :: l => decide (cmpR a b < 0) && risesR (b :: l)
  | _ => true
theorem risesR_ris : ∀ {l : List Rq}, risesR l = true ↔ Ris l
  | [] => ⟨fun _ => List.Pairwise.nil, fun _ => rfl⟩
  | [a] => ⟨fun _ => List.pairwise_singleton _ _, fun _ => rfl⟩
  | a :: b :: l => by
    rw [risesR, Bool.and_eq_true, decide_eq_true_eq, risesR_ris (l := b :: l)]
    constructor
    · rintro ⟨h1, h2⟩
      refine List.pairwise_cons.2 ⟨fun x hx => ?_, h2⟩
      rcases List.mem_cons.1 hx with rfl | hx
      · exact h1
      · exact cmpR_trans h1 ((List.pairwise_cons.1 h2).1 x hx)
    · intro h
      obtain ⟨h1, h2⟩ := List.pairwise_cons.1 h
      exact ⟨h1 b (by simp), h2⟩
/-- The rest of a row rises. -/
theorem risesR_next {l : List Rq} {k : Nat} {a b : Rq} {r : List Rq} (h1 : l.drop k = a :: b :: r) : risesR (l.drop k) = (decide (cmpR a b < 0) && risesR (l.drop (k + 1))) := by
  have : l.drop (k + 1) = b :: r := by rw [← List.drop_drop, h1]; rfl
  rw [h1, this]; rfl
theorem risesR_last {l : List Rq} {k : Nat} (h : l.length ≤ k + 1) : risesR (l.drop k) = true := by
  have hl : (l.drop k).length ≤ 1 := by rw [List.length_drop]; omega
  match l.drop k, hl with
  | [], _ => rfl
  | [_], _ => rfl
end Go.Proofs.Ytcebnmhkbhhfiaa
