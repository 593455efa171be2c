/- A region that draws its order and stores last, more than once, into cells that it loads: as HeldLast, the last stores a list of numbers. -/
import Derived.Test.YtcebnmhkbhhfiaaWords
import Derived.Test.YtcebnmhkbhhfiaaHeldLast
namespace Go.Proofs.Ytcebnmhkbhhfiaa
open Go.RowKit
set_option linter.unusedSimpArgs false
set_option linter.unusedVariables false

section
variable {P : Program} {l : List Oper} {Q : Exit → Act → World → Prop} {S : World → Prop} {z : List Nat}

/-- Whatever order is picked from here on; behind each operation but the last one, z, S holds. -/
def wpM (P : Program) (l : List Oper) (Q : Exit → Act → World → Prop) (S : World → Prop) (z : List Nat) : Nat → Array Bool → Act → World → Prop
  | 0, d, a, w => Region.ready .any l.toArray d = [] ∧ Q .normal a w
  | n + 1, d, a, w => (Region.ready .any l.toArray d = [] → Q .normal a w) ∧
    ∀ i ∈ Region.ready .any l.toArray d, wpOp P l.toArray Q i (fun b v => (z.contains i = false → S v) ∧ wpM P l Q S z n (d.setIfInBounds i true) b v) a w
theorem wpM_any : ∀ (n : Nat) (d : Array Bool) (a : Act) (w : World), wpM P l Q S z n d a w → wpAny P .any l.toArray Q n d a w
  | 0, _, _, _, h => h
  | n + 1, _, _, _, h => ⟨h.1, fun i hi => wpOp_mono (fun b v hv => wpM_any n _ b v hv.2) (h.2 i hi)⟩
/-- Whatever is done, what it waits for is done. -/
def Closed (l : List Oper) (d : Array Bool) : Prop := ∀ k o, l.toArray[k]? = some o → d.getD k false = true → ∀ e ∈ o.after, Region.binds .any e = true → d.getD e.on false = true
def closedB (l : List Oper) (d : Array Bool) : Bool := (List.range d.size).all fun k => !(d.getD k false) || match l[k]? with
  | none => true
  | some o => o.after.all fun e => !(Region.binds .any e) || d.getD e.on false
theorem closedB_spec {d : Array Bool} (h : closedB l d = true) : Closed l d := fun k o ho hk e he hb => by
  have hkd : k < d.size := by
    rcases Nat.lt_or_ge k d.size with h1 | h1
    · exact h1
    · simp [Array.getElem?_eq_none h1] at hk
  have h1 := List.all_eq_true.1 h k (List.mem_range.2 hkd)
  rw [hk, show l[k]? = some o from by simpa using ho] at h1
  simp only [Bool.not_true, Bool.false_or] at h1
  have h2 := Array.all_eq_true'.1 h1 e he
  rw [hb] at h2
  simpa using h2
theorem Closed.step {d : Array Bool} {j : Nat} (h : Closed l d) (hj : j ∈ Region.ready .any l.toArray d) : Closed l (d.setIfInBounds j true) := fun k o ho hk e he hb => by
  refine getD_set_true ?_
  by_cases e1 : k = j
  · subst e1
    obtain ⟨_, o', ho', hall⟩ := mem_ready.1 hj
    rw [ho] at ho'
    cases Option.some.inj ho'
    exact hall e he hb
  · rw [getD_set_ne false (fun x => e1 x.symm)] at hk
    exact h k o ho hk e he hb
/-- y waits for i by way of these. -/
def chainW (l : List Oper) (y : Nat) : List Nat → Nat → Bool
  | [], i => waitsL l y i
  | k :: r, i => waitsL l y k && chainW l k r i
theorem waits_done {d : Array Bool} {y i : Nat} {o : Oper} (ho : l.toArray[y]? = some o) (hall : ∀ e ∈ o.after, Region.binds .any e = true → d.getD e.on false = true) (hw : waitsL l y i = true) : d.getD i false = true := by
  unfold waitsL at hw
  rw [show l[y]? = some o from by simpa using ho] at hw
  obtain ⟨e, he, hb⟩ := Array.any_eq_true'.1 hw
  rw [Bool.and_eq_true, beq_iff_eq] at hb
  have := hall e he hb.1
  rwa [hb.2] at this
theorem chain_done {d : Array Bool} {i : Nat} (hc : Closed l d) : ∀ (r : List Nat) (k : Nat), d.getD k false = true → chainW l k r i = true → d.getD i false = true
  | [], k, hk, hw => by
    cases ho : l.toArray[k]? with
    | none => unfold chainW waitsL at hw; rw [show l[k]? = none from by simpa using ho] at hw; cases hw
    | some o => exact waits_done ho (hc k o ho hk) hw
  | m :: r, k, hk, hw => by
    unfold chainW at hw
    rw [Bool.and_eq_true] at hw
    cases ho : l.toArray[k]? with
    | none => have h1 := hw.1; unfold waitsL at h1; rw [show l[k]? = none from by simpa using ho] at h1; cases h1
    | some o => exact chain_done hc r m (waits_done ho (hc k o ho hk) hw.1) hw.2
theorem chain_not {d : Array Bool} {i y : Nat} (hc : Closed l d) (hi : i ∈ Region.ready .any l.toArray d) (hy : y ∈ Region.ready .any l.toArray d) (r : List Nat) (hw : chainW l y r i = true) : False := by
  have h0 := (mem_ready.1 hi).1
  obtain ⟨_, o, ho, hall⟩ := mem_ready.1 hy
  have hd : d.getD i false = true := by
    cases r with
    | nil => exact waits_done ho hall hw
    | cons m r =>
      unfold chainW at hw
      rw [Bool.and_eq_true] at hw
      exact chain_done hc r m (waits_done ho hall hw.1) hw.2
  rcases Nat.lt_or_ge i d.size with h | h
  · simp [h] at hd h0
    rw [hd] at h0
    cases h0
  · simp [Array.getElem?_eq_none h] at hd
theorem wpM_first {ps : List (List Nat)} {i : Nat} {oi : Oper} {v : Value} (hi : l.toArray[i]? = some oi) (hsel : ∀ (j : Nat) (o : Oper) cs b, l.toArray[j]? = some o → o.op ≠ .select cs b)
    (hQ : ∀ c a w, Q (.panic c) (a.put oi.dst v) w → Q (.panic c) a w) (n : Nat) : ∀ (d : Array Bool) (a : Act) (w : World),
      (∀ j oj, l.toArray[j]? = some oj → j ≠ i → d.getD j true = false → (∀ e ∈ oj.after, Region.binds .any e = true → e.on ≠ i) → oi.apart l.toArray oj = true) →
      Closed l d → (∀ y ∈ z, d.getD y false = true ∨ ∃ r ∈ ps, chainW l y r i = true) → i ∈ Region.ready .any l.toArray d → YieldsIf P l.toArray S oi v a → S w → wpM P l Q S z n (d.setIfInBounds i true) (a.put oi.dst v) w → wpM P l Q S z (n + 1) d a w := by
  have hne : ∀ d : Array Bool, Closed l d → (∀ y ∈ z, d.getD y false = true ∨ ∃ r ∈ ps, chainW l y r i = true) → i ∈ Region.ready .any l.toArray d → ∀ j ∈ Region.ready .any l.toArray d, j ≠ i → z.contains j = false := fun d hc hz hr j hj _ => by
    rw [Bool.eq_false_iff]
    intro e
    rcases hz j (by simpa using e) with hd | ⟨r, _, hw⟩
    · have h0 := (mem_ready.1 hj).1
      rcases Nat.lt_or_ge j d.size with h | h
      · simp [h] at hd h0
        rw [hd] at h0
        cases h0
      · simp [Array.getElem?_eq_none h] at hd
    · exact chain_not hc hr hj r hw
  induction n with
  | zero =>
    intro d a w _ hc hz hr hy hS H
    refine ⟨fun h => (by rw [h] at hr; cases hr), fun j hj => ?_⟩
    by_cases hji : j = i
    · subst hji
      exact hy.wpOp hi hS ⟨fun _ => hS, H⟩
    · have := ready_mono hj hji
      rw [H.1] at this
      cases this
  | succ n ih =>
    intro d a w hfree hc hz hr hy hS H
    refine ⟨fun h => (by rw [h] at hr; cases hr), fun j hj => ?_⟩
    by_cases hji : j = i
    · subst hji
      exact hy.wpOp hi hS ⟨fun _ => hS, H⟩
    · have hjz := hne d hc hz hr j hj hji
      obtain ⟨hun, oj, hoj, _⟩ := mem_ready.1 hj
      have step := wpOp_putIf hoj (hfree j oj hoj hji hun (ready_not hr hj hoj)) (fun cs b => hsel i oi cs b hi) (fun cs b => hsel j oj cs b hoj) hQ hy (H.2 j (ready_mono hj hji))
      refine wpOp_mono (fun b u hbu => ⟨fun _ => hbu.2.1 hjz, ih (d.setIfInBounds j true) b u (fun k ok hk hki hku hno => ?_) (hc.step hj) (fun y hy => (hz y hy).imp (fun h => getD_set_true h) id) (ready_mono hr (Ne.symm hji)) hbu.1 (hbu.2.1 hjz) ?_⟩) step
      · refine hfree k ok hk hki ?_ hno
        by_cases hjk : j = k
        · subst hjk; exact hun
        · rwa [getD_set_ne true hjk] at hku
      · rw [Array.setIfInBounds_comm _ _ hji]
        exact hbu.2.2
theorem wpM_first0 {i : Nat} {oi : Oper} {v : Value} (hi : l.toArray[i]? = some oi) (hsel : ∀ (j : Nat) (o : Oper) cs b, l.toArray[j]? = some o → o.op ≠ .select cs b)
    (hQ : ∀ c a w, Q (.panic c) (a.put oi.dst v) w → Q (.panic c) a w) (hz : z.contains i = true) (n : Nat) : ∀ (d : Array Bool) (a : Act) (w : World),
      (∀ j oj, l.toArray[j]? = some oj → j ≠ i → d.getD j true = false → (∀ e ∈ oj.after, Region.binds .any e = true → e.on ≠ i) → oi.apart l.toArray oj = true) →
      i ∈ Region.ready .any l.toArray d → YieldsIf P l.toArray (fun _ => True) oi v a → wpM P l Q S z n (d.setIfInBounds i true) (a.put oi.dst v) w → wpM P l Q S z (n + 1) d a w := by
  induction n with
  | zero =>
    intro d a w _ hr hy H
    refine ⟨fun h => (by rw [h] at hr; cases hr), fun j hj => ?_⟩
    by_cases hji : j = i
    · subst hji
      exact hy.wpOp hi trivial ⟨fun h => absurd h (by rw [hz]; decide), H⟩
    · have := ready_mono hj hji
      rw [H.1] at this
      cases this
  | succ n ih =>
    intro d a w hfree hr hy H
    refine ⟨fun h => (by rw [h] at hr; cases hr), fun j hj => ?_⟩
    by_cases hji : j = i
    · subst hji
      exact hy.wpOp hi trivial ⟨fun h => absurd h (by rw [hz]; decide), H⟩
    · obtain ⟨hun, oj, hoj, _⟩ := mem_ready.1 hj
      have step := wpOp_putIf hoj (hfree j oj hoj hji hun (ready_not hr hj hoj)) (fun cs b => hsel i oi cs b hi) (fun cs b => hsel j oj cs b hoj) hQ hy (H.2 j (ready_mono hj hji))
      refine wpOp_mono (fun b u hbu => ⟨hbu.2.1, ih (d.setIfInBounds j true) b u (fun k ok hk hki hku hno => ?_) (ready_mono hr (Ne.symm hji)) hbu.1 ?_⟩) step
      · refine hfree k ok hk hki ?_ hno
        by_cases hjk : j = k
        · subst hjk; exact hun
        · rwa [getD_set_ne true hjk] at hku
      · rw [Array.setIfInBounds_comm _ _ hji]
        exact hbu.2.2
theorem wpM_take {ps : List (List Nat)} {i : Nat} {oi : Oper} {v : Value} {n : Nat} {d : Array Bool} {a : Act} {w : World} (hi : l[i]? = some oi) (hs : Region.noSelect l.toArray = true) (hf : Region.free .any l.toArray d i = true)
    (hr : (Region.ready .any l.toArray d).contains i = true) (hz : z.all (fun y => d.getD y false || ps.any fun r => chainW l y r i) = true) (hcl : closedB l d = true) (hQ : ∀ c a w, Q (.panic c) (a.put oi.dst v) w → Q (.panic c) a w) (hy : YieldsIf P l.toArray S oi v a) (hS : S w)
    (h : wpM P l Q S z n (d.setIfInBounds i true) (a.put oi.dst v) w) : wpM P l Q S z (n + 1) d a w :=
  wpM_first (by simpa using hi) (Region.noSelect_spec hs) hQ n d a w (Region.free_spec (by simpa using hi) hf) (closedB_spec hcl) (fun y hy => by have h := List.all_eq_true.1 hz y hy; rw [Bool.or_eq_true] at h; exact h.imp id (fun h => by obtain ⟨r, h1, h2⟩ := List.any_eq_true.1 h; exact ⟨r, h1, h2⟩)) (by simpa using hr) hy hS h
theorem wpM_pure {i : Nat} {oi : Oper} {v : Value} {n : Nat} {d : Array Bool} {a : Act} {w : World} (hi : l[i]? = some oi) (hs : Region.noSelect l.toArray = true) (hf : Region.free .any l.toArray d i = true)
    (hr : (Region.ready .any l.toArray d).contains i = true) (hz : z.contains i = true) (hQ : ∀ c a w, Q (.panic c) (a.put oi.dst v) w → Q (.panic c) a w) (hy : YieldsIf P l.toArray (fun _ => True) oi v a)
    (h : wpM P l Q S z n (d.setIfInBounds i true) (a.put oi.dst v) w) : wpM P l Q S z (n + 1) d a w :=
  wpM_first0 (by simpa using hi) (Region.noSelect_spec hs) hQ hz n d a w (Region.free_spec (by simpa using hi) hf) (by simpa using hr) hy h
/-- Each of those comes up next. -/
def AllM (P : Program) (l : List Oper) (Q : Exit → Act → World → Prop) (S : World → Prop) (z : List Nat) (n : Nat) (d : Array Bool) (a : Act) (w : World) (rs : List Nat) : Prop :=
  ∀ i ∈ rs, wpOp P l.toArray Q i (fun b v => (z.contains i = false → S v) ∧ wpM P l Q S z n (d.setIfInBounds i true) b v) a w
theorem AllM.nil {n : Nat} {d : Array Bool} {a : Act} {w : World} : AllM P l Q S z n d a w [] := fun _ h => by cases h
theorem AllM.cons {n i : Nat} {d : Array Bool} {a : Act} {w : World} {o : Oper} {rs : List Nat} (ho : l[i]? = some o)
    (h : ∀ K : Act → World → Prop, Shut (∀ b v, (z.contains i = false → S v) → ((z.contains i = false → S v) → wpM P l Q S z n (d.setIfInBounds i true) b v) → K b v) → if Region.wanted o (yielded l.toArray a.tmps) = true then Oper.wp P o a w K Q else K (a.put o.dst undef) w)
    (hs : AllM P l Q S z n d a w rs) : AllM P l Q S z n d a w (i :: rs) := fun j hj => by
  rcases List.mem_cons.1 hj with rfl | hj
  · exact wpOp_step (by simpa using ho) (fun K hK => h K (fun b v hS hW => hK b v ⟨hS, hW hS⟩))
  · exact hs j hj
theorem wpM_ready {rs : List Nat} {n : Nat} {d : Array Bool} {a : Act} {w : World} (hr : Region.ready .any l.toArray d = rs) (hne : rs ≠ []) (h : AllM P l Q S z n d a w rs) : wpM P l Q S z (n + 1) d a w :=
  ⟨fun h0 => absurd (hr ▸ h0) hne, hr ▸ h⟩
theorem wpM_done {d : Array Bool} {a : Act} {w : World} (hr : Region.ready .any l.toArray d = []) (h : Q .normal a w) : ∀ n, wpM P l Q S z n d a w
  | 0 => ⟨hr, h⟩
  | _ + 1 => ⟨fun _ => h, by rw [hr]; simp⟩
theorem wpM_region {id n : Nat} {d : Array Bool} {a : Act} {w : World} (hm : P.follows .mixedOrders = true) (hn : l.length = n) (hd : Array.replicate n false = d) (hS : S w.drew) (h : S w.drew → wpM P l Q S z n d a w.drew) : (Code.region id l.toArray true).wp P Q a w :=
  wp_region_any hm (by
    subst hn hd
    have := wpM_any _ _ _ _ (h hS)
    simpa using this)
end
end Go.Proofs.Ytcebnmhkbhhfiaa
