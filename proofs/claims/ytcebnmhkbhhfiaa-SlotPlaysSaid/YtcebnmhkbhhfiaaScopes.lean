/- A scope with several labels, to which the run jumps forth and back: what holds at each jump, and a measure that each pass lowers. -/
import Derived.Scope
import Derived.WalkMore
namespace Go.Proofs.Ytcebnmhkbhhfiaa

/-- As Q; by a goto to label l: J l. -/
def goes (J : Nat → Act → World → Prop) (Q : Exit → Act → World → Prop) : Exit → Act → World → Prop
  | .goto l, a, w => J l a w
  | e, a, w => Q e a w

theorem wp_scope_labels {P : Program} {a : Act} {w : World} {Q : Exit → Act → World → Prop} {c : Code} (J : Nat → Act → World → Prop) (μ : Nat → Act → World → Nat)
    (start : c.wp P (goes J Q) a w)
    (pass : ∀ l a w, J l a w → ∃ rest, findLabel c l = some rest ∧ rest.wp P (goes (fun l' a' w' => J l' a' w' ∧ μ l' a' w' < μ l a w) Q) a w) :
    (Code.scope c).wp P Q a w := by
  intro b k cs
  have go : ∀ n l a w, μ l a w = n → J l a w → ∃ rest, findLabel c l = some rest ∧ ∃ e a' w', Q e a' w' ∧ Arrives P (lone (b.at a (.code rest :: .inScope c :: k)) cs w) b k cs e a' w' := by
    intro n
    induction n using Nat.strongRecOn with
    | _ n ih =>
      intro l a w hn hJ
      obtain ⟨rest, hf, hp⟩ := pass l a w hJ
      refine ⟨rest, hf, ?_⟩
      obtain ⟨e, a1, w1, hq, har⟩ := hp b (.inScope c :: k) cs
      cases e with
      | goto m =>
        obtain ⟨hJ', hlt⟩ := hq
        obtain ⟨rest', hf', e', a2, w2, hq', har'⟩ := ih _ (hn ▸ hlt) m a1 w1 rfl hJ'
        exact ⟨e', a2, w2, hq', .of_steps (har (.code rest' :: .inScope c :: k) (by simp [gotoIn, hf'])) har'⟩
      | normal => exact ⟨.normal, a1, w1, hq, Steps.trans har (.one step_inScope)⟩
      | exit i => exact ⟨.exit i, a1, w1, hq, fun k' hk => har k' (by simp [exitTo, hk])⟩
      | ret => exact ⟨.ret, a1, w1, hq, har⟩
      | panic ps => exact ⟨.panic ps, a1, w1, hq, har⟩
      | outgrown => exact ⟨.outgrown, a1, w1, hq, har⟩
  obtain ⟨e, a1, w1, hq, har⟩ := start b (.inScope c :: k) cs
  cases e with
  | goto m =>
    obtain ⟨rest, hf, e', a2, w2, hq', har'⟩ := go _ m a1 w1 rfl hq
    exact ⟨e', a2, w2, hq', .of_steps (.head step_scope (har (.code rest :: .inScope c :: k) (by simp [gotoIn, hf]))) har'⟩
  | normal => exact ⟨.normal, a1, w1, hq, .head step_scope (Steps.trans har (.one step_inScope))⟩
  | exit i => exact ⟨.exit i, a1, w1, hq, fun k' hk => .head step_scope (har k' (by simp [exitTo, hk]))⟩
  | ret => exact ⟨.ret, a1, w1, hq, .of_steps (.one step_scope) har⟩
  | panic ps => exact ⟨.panic ps, a1, w1, hq, .of_steps (.one step_scope) har⟩
  | outgrown => exact ⟨.outgrown, a1, w1, hq, .of_steps (.one step_scope) har⟩

/-- The same, where the run also falls through labels: 'again' serves wherever what follows a label is met. -/
theorem wp_scope_fall {P : Program} {a : Act} {w : World} {Q : Exit → Act → World → Prop} {c : Code} (J : Nat → Act → World → Prop) (μ : Nat → Act → World → Nat)
    (pass : ∀ l a w, J l a w → ∃ R, findLabel c l = some (.seq .skip R) ∧ R.wp P (goes (fun l' a' w' => J l' a' w' ∧ μ l' a' w' < μ l a w) Q) a w)
    (start : (∀ l R a w, findLabel c l = some (.seq .skip R) → J l a w → R.wp P (goes J Q) a w) → c.wp P (goes J Q) a w) :
    (Code.scope c).wp P Q a w := by
  refine wp_scope_labels J μ (start fun l R a w hf hJ => ?_) fun l a w hJ => ?_
  · obtain ⟨R', hf', hp⟩ := pass l a w hJ
    rw [hf'] at hf
    injection hf with hf
    injection hf with _ hf
    subst hf
    refine Code.wp_mono ?_ hp
    intro e a' w' h
    cases e <;> first | exact h.1 | exact h
  · obtain ⟨R, hf, hp⟩ := pass l a w hJ
    exact ⟨_, hf, wp_seq (wp_skip hp)⟩

section
variable {J : Nat → Act → World → Prop} {Q : Exit → Act → World → Prop} {a : Act} {w : World}
@[go_sem] theorem goes_goto (l : Nat) : goes J Q (.goto l) a w = J l a w := rfl
@[go_sem] theorem goes_normal : goes J Q .normal a w = Q .normal a w := rfl
@[go_sem] theorem goes_exit (i : Nat) : goes J Q (.exit i) a w = Q (.exit i) a w := rfl
@[go_sem] theorem goes_ret : goes J Q .ret a w = Q .ret a w := rfl
@[go_sem] theorem goes_panic (ps : List PanicEntry) : goes J Q (.panic ps) a w = Q (.panic ps) a w := rfl
end
end Go.Proofs.Ytcebnmhkbhhfiaa
