/- A region that draws its order and stores last into a cell that it loads: every load is taken first, one condition on the worlds ahead of that store. -/
import Derived.Test.YtcebnmhkbhhfiaaWords
import Derived.Deep.RegionHeld3
namespace Go.Proofs.Ytcebnmhkbhhfiaa
open Go.RowKit
set_option linter.unusedSimpArgs false
set_option linter.unusedVariables false

section
variable {P : Program} {l : List Oper} {Q : Exit → Act → World → Prop} {S : World → Prop} {z : Nat}

/-- Whatever order is picked from here on; behind each operation but the last one, z, S holds. -/
def wpL (P : Program) (l : List Oper) (Q : Exit → Act → World → Prop) (S : World → Prop) (z : Nat) : Nat → Array Bool → Act → World → Prop
  | 0, d, a, w => Region.ready .any l.toArray d = [] ∧ Q .normal a w
  | n + 1, d, a, w => (Region.ready .any l.toArray d = [] → Q .normal a w) ∧
    ∀ i ∈ Region.ready .any l.toArray d, wpOp P l.toArray Q i (fun b v => (i ≠ z → S v) ∧ wpL P l Q S z n (d.setIfInBounds i true) b v) a w
theorem wpL_any : ∀ (n : Nat) (d : Array Bool) (a : Act) (w : World), wpL P l Q S z n d a w → wpAny P .any l.toArray Q n d a w
  | 0, _, _, _, h => h
  | n + 1, _, _, _, h => ⟨h.1, fun i hi => wpOp_mono (fun b v hv => wpL_any n _ b v hv.2) (h.2 i hi)⟩
/-- Does number z wait for number i? -/
def waitsL (l : List Oper) (z i : Nat) : Bool := match l[z]? with
  | none => false
  | some o => o.after.any fun e => Region.binds .any e && e.on == i
theorem ready_not {d : Array Bool} {i j : Nat} {oj : Oper} (hi : i ∈ Region.ready .any l.toArray d) (hj : j ∈ Region.ready .any l.toArray d) (hoj : l.toArray[j]? = some oj) : ∀ e ∈ oj.after, Region.binds .any e = true → e.on ≠ i := fun e he hb hx => by
  obtain ⟨_, o', ho', hall⟩ := mem_ready.1 hj
  rw [hoj] at ho'
  cases Option.some.inj ho'
  have h1 := hall e he hb
  have h2 := (mem_ready.1 hi).1
  rw [hx] at h1
  rcases Nat.lt_or_ge i d.size with h | h
  · simp [h] at h1 h2
    rw [h1] at h2
    cases h2
  · simp [Array.getElem?_eq_none h] at h1
theorem wpL_first {i : Nat} {oi : Oper} {v : Value} (hi : l.toArray[i]? = some oi) (hsel : ∀ (j : Nat) (o : Oper) cs b, l.toArray[j]? = some o → o.op ≠ .select cs b)
    (hQ : ∀ c a w, Q (.panic c) (a.put oi.dst v) w → Q (.panic c) a w) (hz : waitsL l z i = true) (n : Nat) : ∀ (d : Array Bool) (a : Act) (w : World),
      (∀ j oj, l.toArray[j]? = some oj → j ≠ i → d.getD j true = false → (∀ e ∈ oj.after, Region.binds .any e = true → e.on ≠ i) → oi.apart l.toArray oj = true) →
      i ∈ Region.ready .any l.toArray d → YieldsIf P l.toArray S oi v a → S w → wpL P l Q S z n (d.setIfInBounds i true) (a.put oi.dst v) w → wpL P l Q S z (n + 1) d a w := by
  have hne : ∀ d : Array Bool, i ∈ Region.ready .any l.toArray d → ∀ j ∈ Region.ready .any l.toArray d, j ≠ i → j ≠ z := fun d hr j hj _ e => by
    subst e
    obtain ⟨_, oj, hoj, _⟩ := mem_ready.1 hj
    have h := ready_not hr hj hoj
    unfold waitsL at hz
    rw [show l[j]? = some oj from by simpa using hoj] at hz
    obtain ⟨e, he, hb⟩ := Array.any_eq_true'.1 hz
    rw [Bool.and_eq_true, beq_iff_eq] at hb
    exact h e he hb.1 hb.2
  induction n with
  | zero =>
    intro d a w _ hr hy hS H
    refine ⟨fun h => (by rw [h] at hr; cases hr), fun j hj => ?_⟩
    by_cases hji : j = i
    · subst hji
      exact hy.wpOp hi hS ⟨fun _ => hS, H⟩
    · have := ready_mono hj hji
      rw [H.1] at this
      cases this
  | succ n ih =>
    intro d a w hfree hr hy hS H
    refine ⟨fun h => (by rw [h] at hr; cases hr), fun j hj => ?_⟩
    by_cases hji : j = i
    · subst hji
      exact hy.wpOp hi hS ⟨fun _ => hS, H⟩
    · have hjz := hne d hr j hj hji
      obtain ⟨hun, oj, hoj, _⟩ := mem_ready.1 hj
      have step := wpOp_putIf hoj (hfree j oj hoj hji hun (ready_not hr hj hoj)) (fun cs b => hsel i oi cs b hi) (fun cs b => hsel j oj cs b hoj) hQ hy (H.2 j (ready_mono hj hji))
      refine wpOp_mono (fun b u hbu => ⟨fun _ => hbu.2.1 hjz, ih (d.setIfInBounds j true) b u (fun k ok hk hki hku hno => ?_) (ready_mono hr (Ne.symm hji)) hbu.1 (hbu.2.1 hjz) ?_⟩) step
      · refine hfree k ok hk hki ?_ hno
        by_cases hjk : j = k
        · subst hjk; exact hun
        · rwa [getD_set_ne true hjk] at hku
      · rw [Array.setIfInBounds_comm _ _ hji]
        exact hbu.2.2
theorem wpL_take {i : Nat} {oi : Oper} {v : Value} {n : Nat} {d : Array Bool} {a : Act} {w : World} (hi : l[i]? = some oi) (hs : Region.noSelect l.toArray = true) (hf : Region.free .any l.toArray d i = true)
    (hr : (Region.ready .any l.toArray d).contains i = true) (hz : waitsL l z i = true) (hQ : ∀ c a w, Q (.panic c) (a.put oi.dst v) w → Q (.panic c) a w) (hy : YieldsIf P l.toArray S oi v a) (hS : S w)
    (h : wpL P l Q S z n (d.setIfInBounds i true) (a.put oi.dst v) w) : wpL P l Q S z (n + 1) d a w :=
  wpL_first (by simpa using hi) (Region.noSelect_spec hs) hQ hz n d a w (Region.free_spec (by simpa using hi) hf) (by simpa using hr) hy hS h
/-- Each of those comes up next. -/
def AllL (P : Program) (l : List Oper) (Q : Exit → Act → World → Prop) (S : World → Prop) (z n : Nat) (d : Array Bool) (a : Act) (w : World) (rs : List Nat) : Prop :=
  ∀ i ∈ rs, wpOp P l.toArray Q i (fun b v => (i ≠ z → S v) ∧ wpL P l Q S z n (d.setIfInBounds i true) b v) a w
theorem AllL.nil {n : Nat} {d : Array Bool} {a : Act} {w : World} : AllL P l Q S z n d a w [] := fun _ h => by cases h
theorem AllL.cons {n i : Nat} {d : Array Bool} {a : Act} {w : World} {o : Oper} {rs : List Nat} (ho : l[i]? = some o)
    (h : ∀ K : Act → World → Prop, Shut (∀ b v, (i ≠ z → S v) → ((i ≠ z → S v) → wpL P l Q S z n (d.setIfInBounds i true) b v) → K b v) → if Region.wanted o (yielded l.toArray a.tmps) = true then Oper.wp P o a w K Q else K (a.put o.dst undef) w)
    (hs : AllL P l Q S z n d a w rs) : AllL P l Q S z n d a w (i :: rs) := fun j hj => by
  rcases List.mem_cons.1 hj with rfl | hj
  · exact wpOp_step (by simpa using ho) (fun K hK => h K (fun b v hS hW => hK b v ⟨hS, hW hS⟩))
  · exact hs j hj
theorem wpL_ready {rs : List Nat} {n : Nat} {d : Array Bool} {a : Act} {w : World} (hr : Region.ready .any l.toArray d = rs) (hne : rs ≠ []) (h : AllL P l Q S z n d a w rs) : wpL P l Q S z (n + 1) d a w :=
  ⟨fun h0 => absurd (hr ▸ h0) hne, hr ▸ h⟩
theorem wpL_done {d : Array Bool} {a : Act} {w : World} (hr : Region.ready .any l.toArray d = []) (h : Q .normal a w) : ∀ n, wpL P l Q S z n d a w
  | 0 => ⟨hr, h⟩
  | _ + 1 => ⟨fun _ => h, by rw [hr]; simp⟩
theorem wpL_region {id n : Nat} {d : Array Bool} {a : Act} {w : World} (hm : P.follows .mixedOrders = true) (hn : l.length = n) (hd : Array.replicate n false = d) (hS : S w.drew) (h : S w.drew → wpL P l Q S z n d a w.drew) : (Code.region id l.toArray true).wp P Q a w :=
  wp_region_any hm (by
    subst hn hd
    have := wpL_any _ _ _ _ (h hS)
    simpa using this)
end
end Go.Proofs.Ytcebnmhkbhhfiaa
