/- psephoslaw09's do: the clock and the plain one side by side. -/
import Derived.Test.YtdljbmjjdjbopaaPlain9
namespace Go.Proofs.Ytdljbmjjdjbopaa
open Go.RowKit Go.Maps Go.Sort
set_option linter.unusedVariables false

/-- The plain clock's list tells the timers. -/
structure Tl (L : List (Int × Int)) (S : Ts) : Prop where
  once : (L.map Prod.fst).Nodup
  is : ∀ p f, S p = some f ↔ (p, f) ∈ L
theorem Tl.new : Tl [] Ts.new := ⟨by simp, fun p f => by simp [Ts.new]⟩
theorem Tl.off {L : List (Int × Int)} {S : Ts} (h : Tl L S) {p : Int} (hp : p ∉ L.map Prod.fst) : S p = none := by
  cases hS : S p with
  | none => rfl
  | some f => exact absurd (List.mem_map.2 ⟨(p, f), (h.is p f).1 hS, rfl⟩) hp
theorem Tl.got {L : List (Int × Int)} {S : Ts} (h : Tl L S) {p f : Int} {i : Nat} (hi : L[i]? = some (p, f)) : S p = some f := (h.is p f).2 (List.mem_of_getElem? hi)
theorem pair_at {L : List (Int × Int)} {i : Nat} {p : Int} (h : (L.map Prod.fst)[i]? = some p) : ∃ f, L[i]? = some (p, f) := by
  rw [List.getElem?_map] at h
  cases hL : L[i]? with
  | none => rw [hL] at h; cases h
  | some x => rw [hL] at h; cases h; exact ⟨x.2, rfl⟩
theorem mem_erase9 {L : List (Int × Int)} (hn : (L.map Prod.fst).Nodup) {i : Nat} {p f : Int} (hi : L[i]? = some (p, f)) (x : Int × Int) : x ∈ L.eraseIdx i ↔ x ∈ L ∧ x.1 ≠ p := by
  obtain ⟨hil, hie⟩ := List.getElem?_eq_some_iff.1 hi
  have hpw := List.pairwise_iff_getElem.1 hn
  constructor
  · intro hx
    obtain ⟨j, hj, hji, e⟩ := List.mem_eraseIdx_iff_getElem.1 hx
    refine ⟨by rw [← e]; exact List.getElem_mem _, fun he => ?_⟩
    have hjp : L[j].1 = L[i].1 := by rw [e, he, hie]
    rcases Nat.lt_or_ge j i with h | h
    · exact hpw j i (by simpa using hj) (by simpa using hil) h (by simpa using hjp)
    · exact hpw i j (by simpa using hil) (by simpa using hj) (by omega) (by simpa using hjp.symm)
  · rintro ⟨hx, hne⟩
    obtain ⟨j, hj, e⟩ := List.mem_iff_getElem.1 hx
    refine List.mem_eraseIdx_iff_getElem.2 ⟨j, hj, fun h => ?_, e⟩
    subst h
    rw [hie] at e
    exact hne (by rw [← e])
theorem Tl.erase {L : List (Int × Int)} {S : Ts} (h : Tl L S) {i : Nat} {p f : Int} (hi : L[i]? = some (p, f)) : Tl (L.eraseIdx i) (S.del p) := by
  refine ⟨?_, fun q g => ?_⟩
  · rw [← map_erase]
    exact h.once.sublist (List.eraseIdx_sublist _ _)
  · rw [mem_erase9 h.once hi]
    by_cases e : q = p
    · subst e
      rw [Ts.del_same]
      exact ⟨fun h => (by cases h), fun h => absurd rfl h.2⟩
    · rw [Ts.del_other _ e, h.is]
      exact ⟨fun h => ⟨h, e⟩, fun h => h.1⟩
theorem Tl.put {L : List (Int × Int)} {S : Ts} (h : Tl L S) {p f : Int} (hp : p ∉ L.map Prod.fst) : Tl (L ++ [(p, f)]) (S.set p f) := by
  refine ⟨?_, fun q g => ?_⟩
  · rw [List.map_append]
    refine List.nodup_append.2 ⟨h.once, by simp, fun a ha b hb => ?_⟩
    simp at hb
    subst hb
    rintro rfl
    exact hp ha
  · rw [List.mem_append]
    by_cases e : q = p
    · subst e
      rw [Ts.set_same]
      constructor
      · intro hg; cases hg; exact Or.inr (by simp)
      · rintro (hm | hm)
        · exact absurd (List.mem_map.2 ⟨_, hm, rfl⟩) hp
        · simp at hm; rw [hm]
    · rw [Ts.set_other _ e, h.is]
      simp [e]
theorem gone {L : List (Int × Int)} (hn : (L.map Prod.fst).Nodup) {i : Nat} {p f : Int} (hi : L[i]? = some (p, f)) : p ∉ (L.eraseIdx i).map Prod.fst := fun hm => by
  obtain ⟨x, hx, e⟩ := List.mem_map.1 hm
  exact ((mem_erase9 hn hi x).1 hx).2 e
theorem Ts.del_off {S : Ts} {p : Int} (h : S p = none) : S.del p = S := by
  funext q
  by_cases e : q = p
  · subst e; rw [Ts.del_same, h]
  · rw [Ts.del_other _ e]
theorem Ts.set_del (S : Ts) (p f : Int) : (S.del p).set p f = S.set p f := by
  funext q
  by_cases e : q = p
  · subst e; rw [Ts.set_same, Ts.set_same]
  · rw [Ts.set_other _ e, Ts.set_other _ e, Ts.del_other _ e]
theorem row_cell9 {w : World} {B n c k : Nat} {A : Option Addr} {l : List Int} {p : Int} (h : w.ownsRow B 3 1 (.slice A n c) n (ics l)) (hk : l[k]? = some p) : ∃ ad, A = some ad ∧ w.cell? (ad.add k) = some (.int .i64 p) := by
  obtain ⟨ad, hA, _, hc⟩ := Has.own h k _ (ics_at hk)
  exact ⟨ad, hA, hc⟩
/-- The two side by side. -/
structure Jp (w0 : World) (cb bm pb : Nat) (now : Int) (N : Nat) (S : Ts) (L : List (Int × Int)) (wr : World) : Prop where
  cs : Cs w0 cb bm now N S wr
  pl : Pl w0.heap.size wr pb now L
  tl : Tl L S
  p0 : w0.heap.size ≤ pb
  len : L.length ≤ N
section
variable {w0 wr w2 : World} {cb bm pb N : Nat} {now : Int} {S : Ts} {L : List (Int × Int)}
theorem Jp.ne1 (h : Jp w0 cb bm pb now N S L wr) : pb ≠ cb := h.pl.ex.elim fun _ h1 => h1.elim fun _ h1 => Blk.ne_ h1.1 h.cs.ck.blk (by decide)
theorem Jp.ne2 (h : Jp w0 cb bm pb now N S L wr) : pb ≠ bm := fun e => by
  obtain ⟨v1, v2, hb, _⟩ := h.pl.ex
  obtain ⟨D, ⟨es, clock, hm, _⟩, _⟩ := h.cs.ck.map
  unfold Blk at hb
  rw [e, hm] at hb
  cases hb
/-- What the clock's own work leaves of the plain one. -/
theorem Jp.clock {x : Nat} (h : Jp w0 cb bm pb now N S L wr) (hx : x = cb ∨ x = bm) (ht : Turn (fun k => k = x) wr w2) : Pl w0.heap.size w2 pb now L := by
  rcases hx with rfl | rfl
  · exact h.pl.kept ht (fun e => h.ne1 e.symm) (NotRow.blk h.cs.ck.blk (by decide))
  · exact h.pl.kept ht (fun e => h.ne2 e.symm) (h.cs.ck.map.elim fun _ hD => NotRow.map hD.1)
theorem Jp.below (h : Jp w0 cb bm pb now N S L wr) (hb : Below wr.heap.size wr w2) : Jp w0 cb bm pb now N S L w2 := ⟨h.cs.below hb, h.pl.below hb, h.tl, h.p0, h.len⟩
theorem Jp.drewN (h : Jp w0 cb bm pb now N S L wr) (n : Nat) : Jp w0 cb bm pb now N S L (wr.drewN n) := h.below (below_drewN (Below.refl _ _) n)
/-- What the plain one's own work leaves of the clock. -/
theorem Jp.plain (h : Jp w0 cb bm pb now N S L wr) (ht : Turn (fun k => k = pb) wr w2) : Cs w0 cb bm now N S w2 :=
  ⟨h.cs.ck.kept ht (fun e => h.ne1 e.symm) (fun e => h.ne2 e.symm), h.cs.low.trans (ht.below h.cs.low.size (fun k hk e => by have := h.p0; omega)), h.cs.b0, h.cs.b1⟩
end
/-- What one act does to the two, and to nothing else. -/
structure Did (w0 : World) (cb bm pb : Nat) (now : Int) (N : Nat) (wr w2 : World) : Prop where
  ex : ∃ (now2 : Int) (N2 : Nat) (S2 : Ts) (L2 : List (Int × Int)), Jp w0 cb bm pb now2 N2 S2 L2 w2 ∧ now ≤ now2 ∧ now2 ≤ now + 1 ∧ N2 ≤ N + 1
  turn : Turn (fun k => k = cb ∨ k = bm ∨ k = pb) wr w2
/-- While the plain clock strikes what Due told. -/
structure Us (w0 : World) (cb bm pb : Nat) (now : Int) (N : Nat) (S : Ts) (B : Nat) (A : Option Addr) (c : Nat) (l : List Int) (k : Nat) (w3 wr : World) : Prop where
  cs : Cs w0 cb bm now N (S.strip l) wr
  ex : ∃ L, Pl w0.heap.size wr pb now L ∧ Tl L (S.strip (l.take k)) ∧ L.length ≤ N
  row : wr.ownsRow B 3 1 (.slice A l.length c) l.length (ics l)
  turn : Turn (fun k => k = pb) w3 wr
theorem strip_keep {S : Ts} {now : Int} {l : List Int} (h : DueIs S now l) {k : Nat} {p : Int} (hp : l[k]? = some p) : ∃ f, S.strip (l.take k) p = some f ∧ f ≤ now := by
  obtain ⟨f, hf, hfn⟩ := (h.mem p).1 (List.mem_of_getElem? hp)
  refine ⟨f, ?_, hfn⟩
  unfold Ts.strip
  rw [if_neg ?_]
  · exact hf
  · intro hm
    obtain ⟨j, hj, e⟩ := List.mem_take_iff_getElem.1 hm
    obtain ⟨hk, ek⟩ := List.getElem?_eq_some_iff.1 hp
    have h1 := List.pairwise_iff_getElem.1 h.up j k (by omega) hk (by omega)
    omega
theorem strip_late {S : Ts} {now : Int} {l : List Int} (h : DueIs S now l) {p f : Int} (hp : S.strip l p = some f) : now < f := by
  unfold Ts.strip at hp
  by_cases e : p ∈ l
  · rw [if_pos e] at hp; cases hp
  · rw [if_neg e] at hp
    rcases Int.lt_or_le now f with h1 | h1
    · exact h1
    · exact absurd ((h.mem p).2 ⟨f, hp, h1⟩) e
theorem due_up {S : Ts} {t : Int} {l : List Int} (h : DueIs S t l) {k m : Nat} {p q : Int} (hk : k = m + 1) (hp : l[k]? = some p) (hq : l[m]? = some q) : q < p := by
  subst hk
  obtain ⟨h1, e1⟩ := List.getElem?_eq_some_iff.1 hp
  obtain ⟨h2, e2⟩ := List.getElem?_eq_some_iff.1 hq
  have := List.pairwise_iff_getElem.1 h.up m (m + 1) h2 h1 (by omega)
  omega
theorem meas_on {k n : Nat} (h : k < n) : n - (intOf (Value.int .i64 ((k : Int) + 1))).toNat < n - (intOf (Value.int .i64 (k : Int))).toNat := by simp [intOf]; omega
theorem maxLen_at : maxLen ≤ 9223372036854775807 := by decide
theorem wrap_lt {m n : Nat} (h : m < n) (hn : n ≤ maxLen) : wrap64 (m : Int) = m := by
  have := maxLen_at
  exact IntWalk.wrap64_in _ ⟨by omega, by omega⟩
theorem wrap_up {m n : Nat} (h : m < n) (hn : n ≤ maxLen) : wrap64 ((m : Int) + 1) = (m : Int) + 1 := by
  have := maxLen_at
  exact IntWalk.wrap64_in _ ⟨by omega, by omega⟩
end Go.Proofs.Ytdljbmjjdjbopaa
