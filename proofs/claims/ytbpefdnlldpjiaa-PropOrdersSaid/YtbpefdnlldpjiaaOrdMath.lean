/- A table in which nobody is without room: it tells just what was told, in whichever order. Nothing of the program. -/
import Derived.Test.YtbpefdnlldpjiaaPropOne
namespace Go.Proofs.Ytbpefdnlldpjiaa

/-- The table holds what has been told, of at most four requests. -/
structure Od13 (rs : List Rq) (T : Rq → Nat → Prop) (L : List Tr) : Prop where
  ok : Fine 1 3 L
  in_ : ∀ x ∈ L, x.rq ∈ rs
  has : ∀ r, (∃ x ∈ L, x.rq = r) ↔ (0 ≤ r.cl ∧ r.cl < 3) ∧ ∃ n, T r n
  mkd : ∀ x ∈ L, ∀ k : Nat, k < 13 → (x.bs[k]? = some true ↔ T x.rq k)
theorem ord_new (rs : List Rq) : Od13 rs (fun _ _ => False) [] := ⟨fine_new (by omega) (by omega) (by omega) (by omega), by simp, fun r => by simp, by simp⟩
theorem nodup_le {α : Type} [DecidableEq α] : ∀ {l m : List α}, l.Nodup → (∀ x ∈ l, x ∈ m) → l.length ≤ m.length
  | [], _, _, _ => Nat.zero_le _
  | x :: l, m, hn, hs => by
    have h1 := List.nodup_cons.1 hn
    have hx : x ∈ m := hs x (by simp)
    have := nodup_le (l := l) (m := m.erase x) h1.2 (fun y hy => by
      refine (List.mem_erase_of_ne (fun e => h1.1 (by rw [← e]; exact hy))).2 (hs y (by simp [hy])))
    rw [List.length_erase_of_mem hx] at this
    have hp : 0 < m.length := List.length_pos_of_mem hx
    simp only [List.length_cons]
    omega
theorem Od13.room {rs : List Rq} {T : Rq → Nat → Prop} {L : List Tr} (h : Od13 rs T L) (hl : rs.length ≤ 4) {r : Rq} (hr : r ∈ rs) (hh : had L r = false) : pend L r.cl ≠ 4 := by
  have h1 : (r :: rqs L).Nodup := List.nodup_cons.2 ⟨(fun hm => by rw [show had L r = true from decide_eq_true hm] at hh; cases hh), h.ok.ris.nodup⟩
  have h2 := nodup_le h1 (m := rs) (fun x hx => by
    rcases List.mem_cons.1 hx with rfl | hx
    · exact hr
    · obtain ⟨y, hy, rfl⟩ := List.mem_map.1 hx
      exact h.in_ y hy)
  have h3 : pend L r.cl ≤ L.length := List.countP_le_length
  rw [List.length_cons, rqs_len] at h2
  omega
theorem Od13.put {rs : List Rq} {T : Rq → Nat → Prop} {L : List Tr} (h : Od13 rs T L) (hl : rs.length ≤ 4) {r : Rq} (hr : r ∈ rs) {n : Nat} (hn : n < 4) : Od13 rs (fun r' n' => T r' n' ∨ (r' = r ∧ n' = n)) (putT 1 3 L r n 5).2 := by
  by_cases hc : 0 ≤ r.cl ∧ r.cl < 3
  · have hput : (putT 1 3 L r n 5).2 = upd L (mark 1 (rowOf L r) n 5).1 := by
      unfold putT
      rw [if_pos (by omega), if_neg (fun hp => h.room hl hr hp.1 hp.2)]
    have hq : (mark 1 (rowOf L r) n 5).1.rq = r := by rw [mark_rq, rowOf_rq]
    have hfine := h.ok.put r n 5
    have h13 := rowOf_len h.ok.len r
    have hold : ∀ k : Nat, k < 13 → ((rowOf L r).bs[k]? = some true ↔ T r k) := fun k hk => by
      by_cases hh : had L r = true
      · have := h.mkd _ (rowOf_in hh) k hk
        rwa [rowOf_rq] at this
      · rw [Bool.not_eq_true] at hh
        rw [rowOf_no hh]
        constructor
        · intro e
          have h0 : ∀ k : Fin 13, noMarks[k.val]? ≠ some true := by decide
          exact absurd e (h0 ⟨k, hk⟩)
        · intro hT
          obtain ⟨x, hx, e⟩ := (h.has r).2 ⟨hc, k, hT⟩
          exact absurd e (had_no.1 hh x hx)
    have hnew : ∀ k : Nat, k < 13 → ((mark 1 (rowOf L r) n 5).1.bs[k]? = some true ↔ T r k ∨ k = n) := fun k hk => by
      obtain ⟨b, hb⟩ := got (l := (rowOf L r).bs) (k := n) (by rw [h13]; omega)
      cases b
      · have hbs : (mark 1 (rowOf L r) n 5).1.bs = (rowOf L r).bs.set n true := by
          rw [mark_new (by omega) hb]
          split <;> rfl
        rw [hbs]
        by_cases e : n = k
        · subst e
          rw [List.getElem?_set_self (by rw [h13]; omega)]
          simp
        · rw [List.getElem?_set_ne e, hold k hk]
          exact ⟨Or.inl, fun h => h.resolve_right (fun e2 => e e2.symm)⟩
      · rw [mark_had (by omega) hb]
        show (rowOf L r).bs[k]? = some true ↔ _
        rw [hold k hk]
        refine ⟨Or.inl, fun h => h.elim id fun e => ?_⟩
        rw [e]
        exact (hold n (by omega)).1 hb
    rw [hput] at hfine ⊢
    refine ⟨hfine, fun x hx => ?_, fun r' => ?_, fun x hx k hk => ?_⟩
    · rcases (mem_upd h.ok.ris _ x).1 hx with rfl | ⟨hx, _⟩
      · rw [hq]; exact hr
      · exact h.in_ x hx
    · constructor
      · rintro ⟨x, hx, rfl⟩
        rcases (mem_upd h.ok.ris _ x).1 hx with rfl | ⟨hx, _⟩
        · rw [hq]; exact ⟨hc, n, Or.inr ⟨rfl, rfl⟩⟩
        · obtain ⟨h1, k, h2⟩ := (h.has x.rq).1 ⟨x, hx, rfl⟩
          exact ⟨h1, k, Or.inl h2⟩
      · rintro ⟨h1, k, h2⟩
        by_cases e : r' = r
        · subst e
          exact ⟨_, (mem_upd h.ok.ris _ _).2 (Or.inl rfl), hq⟩
        · obtain ⟨x, hx, rfl⟩ := (h.has r').2 ⟨h1, k, h2.resolve_right (fun h => e h.1)⟩
          exact ⟨x, (mem_upd h.ok.ris _ _).2 (Or.inr ⟨hx, by rw [hq]; exact e⟩), rfl⟩
    · rcases (mem_upd h.ok.ris _ x).1 hx with rfl | ⟨hx, hne⟩
      · rw [hnew k hk, hq]
        simp
      · rw [hq] at hne
        rw [h.mkd x hx k hk]
        exact ⟨Or.inl, fun h => h.resolve_right (fun h => hne h.1)⟩
  · have hput : (putT 1 3 L r n 5).2 = L := by
      unfold putT
      rw [if_neg (fun hp => hc ⟨hp.1, hp.2.1⟩)]
    rw [hput]
    refine ⟨h.ok, h.in_, fun r' => ?_, fun x hx k hk => ?_⟩
    · rw [h.has r']
      constructor
      · rintro ⟨h1, k, h2⟩
        exact ⟨h1, k, Or.inl h2⟩
      · rintro ⟨h1, k, h2⟩
        exact ⟨h1, k, h2.resolve_right (fun h => hc (h.1 ▸ h1))⟩
    · rw [h.mkd x hx k hk]
      refine ⟨Or.inl, fun h2 => h2.resolve_right (fun h3 => ?_)⟩
      have := h.ok.cl x hx
      rw [h3.1] at this
      exact hc this
theorem Od13.congr {rs : List Rq} {T T' : Rq → Nat → Prop} {L : List Tr} (h : Od13 rs T L) (e : ∀ r n, T r n ↔ T' r n) : Od13 rs T' L :=
  ⟨h.ok, h.in_, fun r => by rw [h.has r]; exact and_congr Iff.rfl ⟨fun ⟨n, hn⟩ => ⟨n, (e r n).1 hn⟩, fun ⟨n, hn⟩ => ⟨n, (e r n).2 hn⟩⟩, fun x hx k hk => by rw [h.mkd x hx k hk, e]⟩
/-- Two such tables are of the same rows. -/
theorem Od13.same {rs : List Rq} {T : Rq → Nat → Prop} {L M : List Tr} (h : Od13 rs T L) (k : Od13 rs T M) : rqs L = rqs M ∧ readyT 1 L = readyT 1 M := by
  have key : ∀ {L M : List Tr}, Od13 rs T L → Od13 rs T M → ∀ x ∈ L, ∃ y ∈ M, y.rq = x.rq ∧ y.bs = x.bs := fun {L M} h k x hx => by
    obtain ⟨y, hy, e⟩ := (k.has x.rq).2 ((h.has x.rq).1 ⟨x, hx, rfl⟩)
    refine ⟨y, hy, e, ?_⟩
    have l1 := h.ok.len x hx
    have l2 := k.ok.len y hy
    apply List.ext_getElem?
    intro j
    by_cases hj : j < 13
    · obtain ⟨b1, hb1⟩ := got (l := x.bs) (k := j) (by omega)
      obtain ⟨b2, hb2⟩ := got (l := y.bs) (k := j) (by omega)
      have h1 := h.mkd x hx j hj
      have h2 := k.mkd y hy j hj
      rw [e] at h2
      have h3 := h1.trans h2.symm
      rw [hb1, hb2] at h3 ⊢
      cases b1 <;> cases b2 <;> simp at h3 ⊢
    · rw [List.getElem?_eq_none (by omega), List.getElem?_eq_none (by omega)]
  refine ⟨Ris.unique h.ok.ris k.ok.ris fun r => ?_, ?_⟩
  · unfold rqs
    rw [List.mem_map, List.mem_map]
    constructor
    · rintro ⟨x, hx, rfl⟩
      obtain ⟨y, hy, e, _⟩ := key h k x hx
      exact ⟨y, hy, e⟩
    · rintro ⟨x, hx, rfl⟩
      obtain ⟨y, hy, e, _⟩ := key k h x hx
      exact ⟨y, hy, e⟩
  · have ris : ∀ {L : List Tr}, Ris (rqs L) → Ris (readyT 1 L) := fun hL => List.Pairwise.sublist (List.Sublist.map _ List.filter_sublist) hL
    refine Ris.unique (ris h.ok.ris) (ris k.ok.ris) fun r => ?_
    unfold readyT rqs
    rw [List.mem_map, List.mem_map]
    constructor
    · rintro ⟨x, hx, rfl⟩
      obtain ⟨h1, h2⟩ := List.mem_filter.1 hx
      obtain ⟨y, hy, e, eb⟩ := key h k x h1
      exact ⟨y, List.mem_filter.2 ⟨hy, by unfold isReady at h2 ⊢; rw [eb]; exact h2⟩, e⟩
    · rintro ⟨x, hx, rfl⟩
      obtain ⟨h1, h2⟩ := List.mem_filter.1 hx
      obtain ⟨y, hy, e, eb⟩ := key k h x h1
      exact ⟨y, List.mem_filter.2 ⟨hy, by unfold isReady at h2 ⊢; rw [eb]; exact h2⟩, e⟩
/-- What the first i of a list have told; the same from a place on, round about. -/
def toldN (l : List (Rq × Nat)) (i : Nat) (r : Rq) (n : Nat) : Prop := ∃ j, j < i ∧ l[j]? = some (r, n)
def turnN (l : List (Rq × Nat)) (at_ i : Nat) (r : Rq) (n : Nat) : Prop := ∃ j, j < i ∧ l[(j + at_) % l.length]? = some (r, n)
theorem told_next {l : List (Rq × Nat)} {i : Nat} {p : Rq × Nat} (h : l[i]? = some p) (r : Rq) (n : Nat) : (toldN l i r n ∨ (r = p.1 ∧ n = p.2)) ↔ toldN l (i + 1) r n := by
  constructor
  · rintro (⟨j, h1, h2⟩ | ⟨rfl, rfl⟩)
    · exact ⟨j, by omega, h2⟩
    · exact ⟨i, by omega, h⟩
  · rintro ⟨j, h1, h2⟩
    by_cases e : j = i
    · subst e
      rw [h] at h2
      cases h2
      exact Or.inr ⟨rfl, rfl⟩
    · exact Or.inl ⟨j, by omega, h2⟩
theorem turn_next {l : List (Rq × Nat)} {at_ i : Nat} {p : Rq × Nat} (h : l[(i + at_) % l.length]? = some p) (r : Rq) (n : Nat) : (turnN l at_ i r n ∨ (r = p.1 ∧ n = p.2)) ↔ turnN l at_ (i + 1) r n := by
  constructor
  · rintro (⟨j, h1, h2⟩ | ⟨rfl, rfl⟩)
    · exact ⟨j, by omega, h2⟩
    · exact ⟨i, by omega, h⟩
  · rintro ⟨j, h1, h2⟩
    by_cases e : j = i
    · subst e
      rw [h] at h2
      cases h2
      exact Or.inr ⟨rfl, rfl⟩
    · exact Or.inl ⟨j, by omega, h2⟩
theorem turn_all (l : List (Rq × Nat)) {at_ : Nat} (ha : at_ ≤ l.length) (r : Rq) (n : Nat) : toldN l l.length r n ↔ turnN l at_ l.length r n := by
  constructor
  · rintro ⟨j, h1, h2⟩
    by_cases e : at_ ≤ j
    · refine ⟨j - at_, by omega, ?_⟩
      rw [show j - at_ + at_ = j by omega, Nat.mod_eq_of_lt h1]
      exact h2
    · refine ⟨j + l.length - at_, by omega, ?_⟩
      rw [show j + l.length - at_ + at_ = j + l.length by omega, Nat.add_mod_right, Nat.mod_eq_of_lt h1]
      exact h2
  · rintro ⟨j, h1, h2⟩
    exact ⟨_, (List.getElem?_eq_some_iff.1 h2).1, h2⟩
end Go.Proofs.Ytbpefdnlldpjiaa
