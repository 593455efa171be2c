/- Package inst: an instance in memory; at, open, copied, Done, Vote, Pre, Commits where it tells nothing. -/
import Derived.Test.YtpdmflhbmimhgaaSlots
import Derived.Deep.MidRow
import Derived.Test.YtpdmflhbmimhgaaVoteClone
import Derived.StillTailTactics
import Derived.BigQuiet
import Derived.Laws.ResultCell
namespace Go.Proofs.Ytpdmflhbmimhgaa
open Go.RowKit
set_option linter.unusedSimpArgs false

/-- A place: its slot, the certificates that outlast a view. -/
structure Px where
  s : Sx
  pr : Option Ct
  co : Option Ct
/-- An instance. -/
structure Ix where
  f : Int
  num : Int
  ah : Int
  vw : Int
  on : Bool
  L : List Px
/-- A place as it lies. -/
structure Pe where
  x : Px
  sb : Nat
  v1 : Value
  v2 : Value
  pa : Option Nat
  ca : Option Nat
def adO (o : Option Nat) : Option Addr := o.map fun g => ⟨g, 0, none⟩
def ptrO (o : Option Nat) : Value := .pointer (adO o)
def Pe.cells (e : Pe) : List Value := [.pointer (some ⟨e.sb, 0, none⟩), ptrO e.pa, ptrO e.ca]
def Pe.Z (e : Pe) : Nat → Prop := SZ e.sb e.v1 e.v2
def peCells (E : List Pe) : List Value := E.flatMap Pe.cells
theorem pe_len (e : Pe) : e.cells.length = 3 := rfl
theorem peCells_len (E : List Pe) : (peCells E).length = E.length * 3 := flatMap_len pe_len E
theorem peCells_one (E : List Pe) : ∀ u ∈ peCells E, u.oneCell' = true := by
  intro u hu
  obtain ⟨v, _, hv⟩ := List.mem_flatMap.1 hu
  simp [Pe.cells, ptrO] at hv
  rcases hv with rfl | rfl | rfl <;> rfl
theorem peCells_at {E : List Pe} {k : Nat} {e : Pe} (h : E[k]? = some e) {j : Nat} (hj : j < 3) : (peCells E)[k * 3 + j]? = e.cells[j]? := by
  induction E generalizing k with
  | nil => cases h
  | cons y E ih =>
    show (y.cells ++ peCells E)[k * 3 + j]? = _
    cases k with
    | zero =>
      obtain rfl : y = e := by simpa using h
      rw [List.getElem?_append_left (by rw [pe_len]; omega), Nat.zero_mul, Nat.zero_add]
    | succ k =>
      rw [List.getElem?_append_right (by rw [pe_len]; omega), pe_len, show (k + 1) * 3 + j - 3 = k * 3 + j by omega]
      exact ih (by simpa using h)
theorem peCells_part {E : List Pe} {k : Nat} {e : Pe} (h : E[k]? = some e) : ((peCells E).drop (k * 3)).take 3 = e.cells := by
  induction E generalizing k with
  | nil => cases h
  | cons y E ih =>
    show ((y.cells ++ peCells E).drop (k * 3)).take 3 = _
    cases k with
    | zero =>
      obtain rfl : y = e := by simpa using h
      rfl
    | succ k =>
      rw [show (k + 1) * 3 = y.cells.length + k * 3 by rw [pe_len]; omega, ← List.drop_drop, List.drop_left]
      exact ih (by simpa using h)
theorem peCells_set {E : List Pe} {k : Nat} {e y : Pe} (h : E[k]? = some e) (hs : y.cells = e.cells) : peCells (E.set k y) = peCells E := by
  induction E generalizing k with
  | nil => cases h
  | cons z E ih =>
    cases k with
    | zero =>
      obtain rfl : z = e := by simpa using h
      show y.cells ++ peCells E = z.cells ++ peCells E
      rw [hs]
    | succ k =>
      show z.cells ++ peCells (E.set k y) = z.cells ++ peCells E
      rw [ih (by simpa using h)]
/-- One cell of a place is another one. -/
theorem peCells_put {E : List Pe} {k j : Nat} {e y : Pe} (h : E[k]? = some e) (hj : j < 3) {u : Value} (hs : y.cells = e.cells.set j u) : peCells (E.set k y) = (peCells E).set (k * 3 + j) u := by
  induction E generalizing k with
  | nil => cases h
  | cons z E ih =>
    cases k with
    | zero =>
      obtain rfl : z = e := by simpa using h
      show y.cells ++ peCells E = (z.cells ++ peCells E).set (0 * 3 + j) u
      rw [hs, Nat.zero_mul, Nat.zero_add, List.set_append_left _ _ (by rw [pe_len]; omega)]
    | succ k =>
      show z.cells ++ peCells (E.set k y) = (z.cells ++ peCells E).set ((k + 1) * 3 + j) u
      rw [ih (by simpa using h), List.set_append_right _ _ (by rw [pe_len]; omega), pe_len, show (k + 1) * 3 + j - 3 = k * 3 + j by omega]
/-- A certificate in a block. -/
structure CtIs (w : World) (g : Nat) (c : Ct) (A : Option Addr) (d : Nat) (B : Option Addr) (e : Nat) : Prop where
  blk : Blk w g 31 #[.int .i64 c.vw, .int .i64 c.ins, .int .i64 c.sq, .slice A c.bt.length d, .slice B c.vs.length e]
  bt : w.ownsRow 0 41 6 (.slice A c.bt.length d) c.bt.length (reqCells c.bt)
  vs : w.ownsRow 0 99 2 (.slice B c.vs.length e) c.vs.length (voteCells c.vs)
  lb : c.bt.length ≤ 1000000
  lv : c.vs.length ≤ 1000000
def CtAt (w : World) : Option Nat → Option Ct → Prop
  | none, none => True
  | some g, some c => ∃ A d B e, CtIs w g c A d B e
  | _, _ => False
/-- No block of another kind lies in Y. -/
def Far (w : World) (Y : Nat → Prop) : Prop := ∀ k t cs, Blk w k t cs → t ≠ 84 → t ≠ 108 → t ≠ 113 → ¬ Y k
section
variable {w w' : World} {Y : Nat → Prop} {g k : Nat} {c : Ct} {A B : Option Addr} {d e : Nat}
theorem Far.own (h : Far w Y) {b m n : Nat} {t : TypeId} {v : Value} {xs : List Value} (ho : w.ownsRow b t m v n xs) (h1 : t ≠ 84) (h2 : t ≠ 108) (h3 : t ≠ 113) : ∀ g, v.ownBlock = some g → ¬ Y g := by
  intro g hg
  rcases ho.2 with ⟨rfl, _⟩ | ⟨g', cap, cur, rfl, _, hh, _⟩
  · cases hg
  · have : g' = g := Option.some.inj hg
    subst this
    exact h g' t cur (show Blk w g' t cur from hh) h1 h2 h3
theorem Far.mono {Y' : Nat → Prop} (h : Far w Y) (hy : ∀ k, Y' k → Y k) : Far w Y' := fun k t cs hb h1 h2 h3 hk => h k t cs hb h1 h2 h3 (hy k hk)
theorem Far.none (w : World) : Far w (fun _ => False) := fun _ _ _ _ _ _ _ => id
theorem CtIs.kept (h : CtIs w g c A d B e) (ht : Turn Y w w') (hf : Far w Y) : CtIs w' g c A d B e :=
  ⟨ht.blk h.blk (hf _ _ _ h.blk (by decide) (by decide) (by decide)), ht.own h.bt (hf.own h.bt (by decide) (by decide) (by decide)), ht.own h.vs (hf.own h.vs (by decide) (by decide) (by decide)), h.lb, h.lv⟩
theorem CtAt.kept {a : Option Nat} {o : Option Ct} (h : CtAt w a o) (ht : Turn Y w w') (hf : Far w Y) : CtAt w' a o := by
  cases a <;> cases o
  · trivial
  · exact h
  · exact h
  · obtain ⟨A, d, B, e, h⟩ := h
    exact ⟨A, d, B, e, h.kept ht hf⟩
theorem CtAt.below {a : Option Nat} {o : Option Ct} (h : CtAt w a o) (hb : Below w.heap.size w w') : CtAt w' a o := h.kept (Turn.of_below (Z := fun _ => False) hb) (Far.none w)
theorem CtAt.isSome {a : Option Nat} {o : Option Ct} (h : CtAt w a o) : a.isSome = o.isSome := by
  cases a <;> cases o <;> first | rfl | cases h
theorem CtAt.none {o : Option Ct} (h : CtAt w none o) : o = none := by
  cases o
  · rfl
  · cases h
theorem CtAt.some {a : Option Nat} (h : CtAt w a (some c)) : ∃ g A d B e, a = some g ∧ CtIs w g c A d B e := by
  cases a
  · cases h
  · obtain ⟨A, d, B, e, h⟩ := h
    exact ⟨_, A, d, B, e, rfl, h⟩
end
def hdI (x : Ix) : List Value := [.int .i64 x.num, .int .i64 x.ah, .int .i64 x.vw, .bool x.on]
def inCells (x : Ix) (E : List Pe) : Array Value := (hdI x ++ peCells E).toArray
/-- A place of an instance, as it lies. -/
structure PeIs (w : World) (f : Int) (e : Pe) : Prop where
  sl : Sl w (fun _ => True) e.sb e.v1 e.v2 f e.x.s
  pr : CtAt w e.pa e.x.pr
  co : CtAt w e.ca e.x.co
/-- The blocks that an instance writes to. -/
def IZ (ib : Nat) (E : List Pe) (k : Nat) : Prop := k = ib ∨ ∃ (i : Nat) (e : Pe), E[i]? = some e ∧ e.Z k
/-- An instance in block ib. -/
structure In (w : World) (ib : Nat) (x : Ix) (E : List Pe) : Prop where
  f1 : 1 ≤ x.f
  f4 : x.f ≤ 4
  num : 0 ≤ x.num ∧ x.num ≤ 4
  ah : 1 ≤ x.ah ∧ x.ah ≤ 16
  vw : 0 ≤ x.vw ∧ x.vw ≤ 12
  ln : E.length = 16
  is : E.map Pe.x = x.L
  blk : Blk w ib 84 (inCells x E)
  all : ∀ (i : Nat) (e : Pe), E[i]? = some e → PeIs w x.f e
  ap : ∀ (i j : Nat) (a b : Pe), E[i]? = some a → E[j]? = some b → i ≠ j → ∀ k, a.Z k → ¬ b.Z k
/-- What a call of an instance's leaves. -/
def IPost (w : World) (ib : Nat) (E : List Pe) (x : Ix) (w' : World) : Prop :=
  ∃ E', In w' ib x E' ∧ (∀ g, IZ ib E' g → IZ ib E g ∨ w.heap.size ≤ g) ∧ Turn (IZ ib E) w w' ∧ E'.map Pe.sb = E.map Pe.sb
def Ix.put (x : Ix) (k : Nat) (p : Px) : Ix := ⟨x.f, x.num, x.ah, x.vw, x.on, x.L.set k p⟩
section
variable {w w' wz : World} {ib k : Nat} {x x' : Ix} {E : List Pe} {e : Pe}
theorem In.len (h : In w ib x E) : x.L.length = 16 := by rw [← h.is, List.length_map, h.ln]
theorem In.at (h : In w ib x E) (hk : k < 16) : ∃ e, E[k]? = some e ∧ x.L[k]? = some e.x := by
  have hk' : k < E.length := by rw [h.ln]; exact hk
  refine ⟨E[k], List.getElem?_eq_getElem hk', ?_⟩
  rw [← h.is, List.getElem?_map, List.getElem?_eq_getElem hk']
  rfl
theorem In.cell (h : In w ib x E) (hk : E[k]? = some e) {j : Nat} (hj : j < 3) : w.cell? ⟨ib, 4 + k * 3 + j, none⟩ = e.cells[j]? := by
  have := h.blk.cell (4 + k * 3 + j)
  rw [this]
  unfold inCells
  rw [List.getElem?_toArray, List.getElem?_append_right (by show 4 ≤ _; omega), show 4 + k * 3 + j - (hdI x).length = k * 3 + j by show _ - 4 = _; omega]
  exact peCells_at hk hj
theorem In.cell0 (h : In w ib x E) (hk : E[k]? = some e) : w.cell? ⟨ib, 4 + k * 3, none⟩ = some (.pointer (some ⟨e.sb, 0, none⟩)) := h.cell hk (j := 0) (by omega)
theorem In.cell1 (h : In w ib x E) (hk : E[k]? = some e) : w.cell? ⟨ib, 4 + k * 3 + 1, none⟩ = some (ptrO e.pa) := h.cell hk (j := 1) (by omega)
theorem In.cell2 (h : In w ib x E) (hk : E[k]? = some e) : w.cell? ⟨ib, 4 + k * 3 + 2, none⟩ = some (ptrO e.ca) := h.cell hk (j := 2) (by omega)
theorem In.hd (h : In w ib x E) : w.cell? ⟨ib, 0, none⟩ = some (.int .i64 x.num) ∧ w.cell? ⟨ib, 1, none⟩ = some (.int .i64 x.ah) ∧ w.cell? ⟨ib, 2, none⟩ = some (.int .i64 x.vw) ∧ w.cell? ⟨ib, 3, none⟩ = some (.bool x.on) :=
  ⟨h.blk.cell 0, h.blk.cell 1, h.blk.cell 2, h.blk.cell 3⟩
theorem In.far (h : In w ib x E) : Far w (IZ ib E) := by
  rintro k t cs hb h0 h2 h3 (rfl | ⟨i, e, hi, hk⟩)
  · exact hb.ne_ h.blk h0 rfl
  · exact (h.all i e hi).sl.off hb h2 h3 hk
theorem In.off (h : In w ib x E) (hk : E[k]? = some e) : ¬ e.Z ib := (h.all k e hk).sl.off h.blk (by decide) (by decide)
theorem In.lt (h : In w ib x E) (hk : IZ ib E k) : k < w.heap.size := by
  rcases hk with rfl | ⟨i, e, hi, hk⟩
  · exact h.blk.lt
  · exact (h.all i e hi).sl.lt hk
theorem PeIs.kept {Y : Nat → Prop} {f : Int} (h : PeIs w f e) (ht : Turn Y w w') (hf : Far w Y) (h1 : ∀ k, e.Z k → ¬ Y k) : PeIs w' f e :=
  ⟨h.sl.kept ht h1 (fun _ _ hb => hf.own hb.own (by decide) (by decide) (by decide)), h.pr.kept ht hf, h.co.kept ht hf⟩
theorem In.kept {Y : Nat → Prop} (h : In w ib x E) (ht : Turn Y w w') (hf : Far w Y) (h1 : ∀ k, IZ ib E k → ¬ Y k) : In w' ib x E :=
  ⟨h.f1, h.f4, h.num, h.ah, h.vw, h.ln, h.is, ht.blk h.blk (h1 _ (Or.inl rfl)), fun i e hi => (h.all i e hi).kept ht hf (fun k hk => h1 k (Or.inr ⟨i, e, hi, hk⟩)), h.ap⟩
theorem In.below (h : In w ib x E) (hb : Below w.heap.size w w') : In w' ib x E := h.kept (Turn.of_below (Z := fun _ => False) hb) (Far.none w) (fun _ _ => id)
theorem In.drewN (h : In w ib x E) (m : Nat) : In (w.drewN m) ib x E := h.below ⟨rfl, rfl, rfl, Nat.le_refl _, fun _ _ => rfl⟩
theorem IPost.same (h : In w ib x E) (hb : Below w.heap.size w w') : IPost w ib E x w' := ⟨E, h.below hb, fun _ hg => Or.inl hg, Turn.of_below hb, rfl⟩
theorem IPost.below (h : IPost w ib E x w') (hb : Below w'.heap.size w' wz) : IPost w ib E x wz := by
  obtain ⟨E', h1, h2, h3, h4⟩ := h
  exact ⟨E', h1.below hb, h2, h3.trans (Turn.of_below hb), h4⟩
theorem IPost.trans {E' : List Pe} (h2 : ∀ g, IZ ib E' g → IZ ib E g ∨ w.heap.size ≤ g) (h3 : Turn (IZ ib E) w w') (h5 : E'.map Pe.sb = E.map Pe.sb) (h : IPost w' ib E' x' wz) : IPost w ib E x' wz := by
  obtain ⟨E2, a1, a2, a3, a4⟩ := h
  refine ⟨E2, a1, fun g hg => ?_, ((h3.mono (Z' := fun k => IZ ib E k ∨ w.heap.size ≤ k) (fun _ _ hk => Or.inl hk)).trans (a3.mono (fun _ _ hk => h2 _ hk))).mono (fun k hk hz => ?_), a4.trans h5⟩
  · rcases a2 g hg with h6 | h6
    · exact h2 g h6
    · exact Or.inr (Nat.le_trans h3.size h6)
  · rcases hz with h6 | h6
    · exact h6
    · omega
/-- One place is another one. -/
theorem In.put (h : In w ib x E) (hk : E[k]? = some e) {y : Pe} {Y : Nat → Prop} (ht : Turn Y w w') (hf : Far w Y) (hY : ∀ j, Y j → j = ib ∨ e.Z j) (hy : PeIs w' x.f y) (hz : ∀ j, y.Z j → e.Z j ∨ w.heap.size ≤ j) (hsb : y.sb = e.sb)
    (hb : Blk w' ib 84 (inCells x (E.set k y))) : IPost w ib E (x.put k y.x) w' := by
  have hkl : k < E.length := (List.getElem?_eq_some_iff.1 hk).1
  have hset : ∀ i a, (E.set k y)[i]? = some a → (i = k ∧ a = y) ∨ (i ≠ k ∧ E[i]? = some a) := by
    intro i a ha
    rw [List.getElem?_set] at ha
    by_cases hik : k = i
    · subst hik
      rw [if_pos rfl, if_pos hkl] at ha
      exact Or.inl ⟨rfl, (Option.some.inj ha).symm⟩
    · rw [if_neg hik] at ha
      exact Or.inr ⟨fun e => hik e.symm, ha⟩
  refine ⟨E.set k y, ⟨h.f1, h.f4, h.num, h.ah, h.vw, by rw [List.length_set]; exact h.ln, ?_, hb, ?_, ?_⟩, ?_, ht.mono (fun j _ hj => ?_), ?_⟩
  · show _ = x.L.set k y.x
    rw [← h.is, List.map_set]
  · intro i a ha
    rcases hset i a ha with ⟨_, rfl⟩ | ⟨hik, ha⟩
    · exact hy
    · refine (h.all i a ha).kept ht hf (fun j hj hYj => ?_)
      rcases hY j hYj with rfl | hj'
      · exact h.off ha hj
      · exact h.ap i k a e ha hk hik j hj hj'
  · intro i j a b ha hb hij m hma hmb
    rcases hset i a ha with ⟨e1, e2⟩ | ⟨hik, ha'⟩ <;> rcases hset j b hb with ⟨e3, e4⟩ | ⟨hjk, hb'⟩
    · exact hij (e1.trans e3.symm)
    · rw [e2] at hma
      rcases hz m hma with h1 | h1
      · exact h.ap k j e b hk hb' (fun e => hjk e.symm) m h1 hmb
      · have := (h.all j b hb').sl.lt hmb
        omega
    · rw [e4] at hmb
      rcases hz m hmb with h1 | h1
      · exact h.ap k i e a hk ha' (fun e => hik e.symm) m h1 hma
      · have := (h.all i a ha').sl.lt hma
        omega
    · exact h.ap i j a b ha' hb' hij m hma hmb
  · rintro g (rfl | ⟨i, a, ha, hg⟩)
    · exact Or.inl (Or.inl rfl)
    · rcases hset i a ha with ⟨rfl, rfl⟩ | ⟨hik, ha⟩
      · rcases hz g hg with h1 | h1
        · exact Or.inl (Or.inr ⟨i, e, hk, h1⟩)
        · exact Or.inr h1
      · exact Or.inl (Or.inr ⟨i, a, ha, hg⟩)
  · rcases hY j hj with rfl | hj
    · exact Or.inl rfl
    · exact Or.inr ⟨k, e, hk, hj⟩
  · rw [List.map_set]
    apply List.ext_getElem?
    intro i
    rw [List.getElem?_set]
    split
    · rename_i hik
      subst hik
      rw [List.getElem?_map, hk, List.length_map, if_pos hkl]
      show _ = some e.sb
      rw [hsb]
    · rfl
/-- A slot's call. -/
theorem In.slot (h : In w ib x E) (hk : E[k]? = some e) {s' : Sx} (hp : SlPost w (fun _ => True) e.sb e.v1 e.v2 x.f s' w') : IPost w ib E (x.put k ⟨s', e.x.pr, e.x.co⟩) w' := by
  obtain ⟨u1, u2, h1, h2, h3⟩ := hp
  have hi := h.all k e hk
  have hf : Far w e.Z := h.far.mono (fun j hj => Or.inr ⟨k, e, hk, hj⟩)
  refine h.put hk (y := ⟨⟨s', e.x.pr, e.x.co⟩, e.sb, u1, u2, e.pa, e.ca⟩) h3 hf (fun _ hj => Or.inr hj) ⟨h1.mono (fun _ _ => trivial), hi.pr.kept h3 hf, hi.co.kept h3 hf⟩ h2 rfl ?_
  have : inCells x (E.set k ⟨⟨s', e.x.pr, e.x.co⟩, e.sb, u1, u2, e.pa, e.ca⟩) = inCells x E := by
    unfold inCells
    rw [peCells_set (y := ⟨⟨s', e.x.pr, e.x.co⟩, e.sb, u1, u2, e.pa, e.ca⟩) hk rfl]
  rw [this]
  exact h3.blk h.blk (h.off hk)
/-- The head's cells are others. -/
theorem In.head (h : In w ib x E) {x' : Ix} (hf : x'.f = x.f) (hn : 0 ≤ x'.num ∧ x'.num ≤ 4) (ha : 1 ≤ x'.ah ∧ x'.ah ≤ 16) (hv : 0 ≤ x'.vw ∧ x'.vw ≤ 12) (hL : x'.L = x.L) (ht : Turn (fun j => j = ib) w w') (hb : Blk w' ib 84 (inCells x' E)) : IPost w ib E x' w' := by
  have hfar : Far w (fun j => j = ib) := fun k' t cs hb h1 _ _ e => hb.ne_ h.blk h1 e
  refine ⟨E, ⟨by rw [hf]; exact h.f1, by rw [hf]; exact h.f4, hn, ha, hv, h.ln, by rw [hL]; exact h.is, hb, fun i e hi => by rw [hf]; exact (h.all i e hi).kept ht hfar (fun m hm em => h.off hi (em ▸ hm)), h.ap⟩, fun _ hg => Or.inl hg, ht.mono (fun _ _ hj => Or.inl hj), rfl⟩
end
end Go.Proofs.Ytpdmflhbmimhgaa
namespace Go.Proofs.Ytpdmflhbmimhgaa
open Go.RowKit
set_option linter.unusedSimpArgs false

section
variable {w : World} {ib k : Nat} {x : Ix} {E : List Pe} {e : Pe}
theorem iat_in (ib : Nat) {k : Nat} (hk : k < 16) (w : World) : Calls Try.prog 38 #[.pointer (some ⟨ib, 0, none⟩), .int .i64 ((k : Int) + 1)] w fun e w' => e = .returned (.pointer (some ⟨ib, 4 + k * 3, none⟩)) ∧ w = w' := by
  have h1 : decide ((k : Int) + 1 < 1) = false := decide_eq_false (by omega)
  have h2 : decide ((16 : Int) < (k : Int) + 1) = false := decide_eq_false (by omega)
  have h3 : (k : Int) + 1 - 1 = (k : Int) := by omega
  go_enter Try.func38, Try.ntmps38
  go_wp2_with fail
  go_ret
  exact ⟨rfl, rfl⟩
theorem iat_out (ib : Nat) {sq : Int} (h : ¬ (1 ≤ sq ∧ sq ≤ 16)) (w : World) : Calls Try.prog 38 #[.pointer (some ⟨ib, 0, none⟩), .int .i64 sq] w fun e w' => e = .returned (.pointer none) ∧ w = w' := by
  by_cases b1 : sq < 1
  · have h1 : decide (sq < 1) = true := decide_eq_true b1
    clear h b1
    go_enter Try.func38, Try.ntmps38
    go_wp2_with fail
    go_ret
    exact ⟨rfl, rfl⟩
  · have h1 : decide (sq < 1) = false := decide_eq_false b1
    have h2 : decide (16 < sq) = true := decide_eq_true (by omega)
    clear h b1
    go_enter Try.func38, Try.ntmps38
    go_wp2_with fail
    go_ret
    exact ⟨rfl, rfl⟩
theorem iopen_in (h : In w ib x E) {k : Nat} (hk : k < 16) (hon : x.on = true) : Calls Try.prog 40 #[.pointer (some ⟨ib, 0, none⟩), .int .i64 ((k : Int) + 1)] w fun e w' => e = .returned (.pointer (some ⟨ib, 4 + k * 3, none⟩)) ∧ w = w' := by
  obtain ⟨-, -, -, h3⟩ := h.hd
  rw [hon] at h3
  have HA := Lib.hid (iat_in ib hk w)
  clear h hk hon
  go_enter Try.func40, Try.ntmps40
  go_wp2_with fail
  refine HA.out.mono ?_
  rintro e w1 ⟨rfl, rfl⟩
  go_wp2_with fail
  go_ret
  exact ⟨rfl, rfl⟩
theorem iopen_no (h : In w ib x E) {sq : Int} (ho : x.on = false ∨ ¬ (1 ≤ sq ∧ sq ≤ 16)) : Calls Try.prog 40 #[.pointer (some ⟨ib, 0, none⟩), .int .i64 sq] w fun e w' => e = .returned (.pointer none) ∧ w = w' := by
  obtain ⟨-, -, -, h3⟩ := h.hd
  cases hon : x.on with
  | false =>
    rw [hon] at h3
    clear h hon ho
    go_enter Try.func40, Try.ntmps40
    go_wp2_with fail
    go_ret
    exact ⟨rfl, rfl⟩
  | true =>
    rw [hon] at h3 ho
    have HA := Lib.hid (iat_out ib (ho.resolve_left (by decide)) w)
    clear h hon ho
    go_enter Try.func40, Try.ntmps40
    go_wp2_with fail
    refine HA.out.mono ?_
    rintro e w1 ⟨rfl, rfl⟩
    go_wp2_with fail
    go_ret
    exact ⟨rfl, rfl⟩
theorem iview_any (h : In w ib x E) : Calls Try.prog 30 #[.pointer (some ⟨ib, 0, none⟩)] w fun e w' => e = .returned (.int .i64 x.vw) ∧ w = w' := by
  obtain ⟨-, -, h3, -⟩ := h.hd
  clear h
  go_enter Try.func30, Try.ntmps30
  go_wp2_with fail
  go_ret
  exact ⟨rfl, rfl⟩
theorem iinstalled_any (h : In w ib x E) : Calls Try.prog 31 #[.pointer (some ⟨ib, 0, none⟩)] w fun e w' => e = .returned (.bool x.on) ∧ w = w' := by
  obtain ⟨-, -, -, h3⟩ := h.hd
  clear h
  go_enter Try.func31, Try.ntmps31
  go_wp2_with fail
  go_ret
  exact ⟨rfl, rfl⟩
/-- So many slots are done. -/
def doneL (L : List Px) : Nat := (L.takeWhile fun p => p.co.isSome).length
theorem doneL_le (L : List Px) : doneL L ≤ L.length := by
  unfold doneL
  exact (List.takeWhile_sublist _).length_le
theorem doneL_step {L : List Px} {k : Nat} (h : k ≤ doneL L) {p : Px} (hk : L[k]? = some p) : (p.co.isSome = true → k + 1 ≤ doneL L) ∧ (p.co.isSome = false → k = doneL L) := by
  induction L generalizing k with
  | nil => cases hk
  | cons q L ih =>
    unfold doneL at h ⊢
    cases hq : q.co.isSome with
    | false =>
      rw [List.takeWhile_cons, hq] at h ⊢
      have h0 : k = 0 := by simpa using h
      subst h0
      obtain rfl : q = p := by simpa using hk
      rw [hq]
      exact ⟨fun e => (by cases e), fun _ => rfl⟩
    | true =>
      rw [List.takeWhile_cons, hq] at h ⊢
      cases k with
      | zero =>
        obtain rfl : q = p := by simpa using hk
        rw [hq]
        exact ⟨fun _ => by simp, fun e => by cases e⟩
      | succ k =>
        have := ih (k := k) (by unfold doneL; simpa using h) (by simpa using hk)
        unfold doneL at this
        simpa using this
set_option maxHeartbeats 1000000 in
theorem idone_any (h : In w ib x E) : Calls Try.prog 14 #[.pointer (some ⟨ib, 0, none⟩)] w fun e w' => e = .returned (.int .i64 (doneL x.L)) ∧ w = w' := by
  have HI := Lib.hid h
  have HD := Lib.hid (show doneL x.L ≤ 16 from by have := doneL_le x.L; rw [h.len] at this; exact this)
  clear h
  go_enter Try.func14, Try.ntmps14
  go_wp2_with fail
  go_loopw [3] (fun v wr => ∃ k : Nat, v = .int .i64 k ∧ k ≤ doneL x.L ∧ wr = w) (fun v _ => 16 - (intOf v).toNat)
  case atStart => exact ⟨0, rfl, Nat.zero_le _, rfl⟩
  case round =>
    obtain ⟨k, rfl, hk, rfl⟩ := hrel
    have hk16 := Nat.le_trans hk HD.out
    by_cases hlt : k < 16
    · obtain ⟨e, he, hx⟩ := HI.out.at hlt
      have c2 := HI.out.cell2 he
      have hs := ((HI.out.all k e he).co).isSome
      have hst := doneL_step hk hx
      have hlt' : (k : Int) < 16 := by omega
      cases hca : e.ca with
      | none =>
        rw [hca] at c2 hs
        have hfin := hst.2 hs.symm
        change _ = some (Value.pointer none) at c2
        have HF := Lib.hid hfin
        clear hst hs hca hk16 he hx hk hfin
        go_wp2_with fail
        go_ret
        exact ⟨by rw [HF.out]; rfl, rfl⟩
      | some g =>
        rw [hca] at c2 hs
        have hfin := hst.1 hs.symm
        change _ = some (Value.pointer (some ⟨g, 0, none⟩)) at c2
        have HF := Lib.hid hfin
        clear hst hs hca hk16 he hx hk hfin
        go_wp2_with fail
        go_roundw
        case rel => exact ⟨k + 1, by go_num, HF.out, by trivial⟩
        case measure => simp [intOf]; omega
    · have hfin : k = doneL x.L := by have := HD.out; omega
      have hlt' : ¬ (k : Int) < 16 := by omega
      have HF := Lib.hid hfin
      clear hfin hk hk16 hlt
      go_wp2_with fail
      go_ret
      exact ⟨by rw [HF.out]; rfl, rfl⟩
end
end Go.Proofs.Ytpdmflhbmimhgaa
namespace Go.Proofs.Ytpdmflhbmimhgaa
open Go.RowKit
set_option linter.unusedSimpArgs false

section
variable {w : World} {ib k : Nat} {x : Ix} {E : List Pe} {e : Pe}
/-- A certificate's value. -/
def ctVal (c : Ct) (A : Option Addr) (d : Nat) (B : Option Addr) (e : Nat) : Value := .agg #[.int .i64 c.vw, .int .i64 c.ins, .int .i64 c.sq, .slice A c.bt.length d, .slice B c.vs.length e]
/-- A certificate of the call's own. -/
structure CtNew (w : World) (b : Nat) (c : Ct) (A : Option Addr) (d : Nat) (B : Option Addr) (e : Nat) : Prop where
  bt : w.ownsRow b 41 6 (.slice A c.bt.length d) c.bt.length (reqCells c.bt)
  vs : w.ownsRow b 99 2 (.slice B c.vs.length e) c.vs.length (voteCells c.vs)
theorem CtNew.below {w w' : World} {b : Nat} {c : Ct} {A B : Option Addr} {d e : Nat} (h : CtNew w b c A d B e) (hb : Below w.heap.size w w') : CtNew w' b c A d B e := ⟨below_own h.bt hb (Nat.le_refl _), below_own h.vs hb (Nat.le_refl _)⟩
theorem blk_cells5 {w : World} {g : Nat} {t : TypeId} {a b c d e : Value} (h : Blk w g t #[a, b, c, d, e]) :
    w.cell? ⟨g, 0, none⟩ = some a ∧ w.cell? ⟨g, 1, none⟩ = some b ∧ w.cell? ⟨g, 2, none⟩ = some c ∧ w.cell? ⟨g, 3, none⟩ = some d ∧ w.cell? ⟨g, 4, none⟩ = some e ∧
    w.frozen? ⟨g, 0, none⟩ = false ∧ w.frozen? ⟨g, 1, none⟩ = false ∧ w.frozen? ⟨g, 2, none⟩ = false ∧ w.frozen? ⟨g, 3, none⟩ = false ∧ w.frozen? ⟨g, 4, none⟩ = false :=
  ⟨h.cell 0, h.cell 1, h.cell 2, h.cell 3, h.cell 4, h.frozen 0, h.frozen 1, h.frozen 2, h.frozen 3, h.frozen 4⟩
theorem info_cert : (Try.prog.info? 31).map (fun i => (i.zero, i.size, i.bytes)) = some (some (.agg #[.int .i64 0, .int .i64 0, .int .i64 0, .slice none 0 0, .slice none 0 0]), 5, 72) := by kernel_rfl
theorem cert_cell {fn : Func} {p : Tmp} (h : fn.results = #[.cell p 31]) {w : World} {g : Nat} (tmps : Array Value) (hp : tmps.getD p undef = .pointer (some ⟨g, 0, none⟩)) {a b c d e : Value} (hb : Blk w g 31 #[a, b, c, d, e]) :
    (results fn tmps).run Try.prog w = .ok (.agg #[a, b, c, d, e]) w :=
  results_cell_row h tmps w g _ _ _ _ hp hb Try.underlying31 rfl (by kernel_rfl)
set_option maxHeartbeats 2000000 in
theorem icopied_any {c : Ct} {g d e B0 : Nat} {A B : Option Addr} (hb : Blk w g 31 #[.int .i64 c.vw, .int .i64 c.ins, .int .i64 c.sq, .slice A c.bt.length d, .slice B c.vs.length e]) (h1 : Has w B0 A (reqCells c.bt)) (h2 : Has w B0 B (voteCells c.vs)) (hB0 : B0 ≤ w.heap.size) (l1 : c.bt.length ≤ 1000000) (l2 : c.vs.length ≤ 1000000) :
    Calls Try.prog 39 #[.pointer (some ⟨g, 0, none⟩)] w fun e w' => ∃ A' d' B' e', e = .returned (.agg #[.int .i64 c.vw, .int .i64 c.ins, .int .i64 c.sq, .slice A' c.bt.length d', .slice B' c.vs.length e']) ∧ CtNew w' w.heap.size c A' d' B' e' ∧ Below w.heap.size w w' := by
  have HZ := Lib.hid (show Below w.heap.size w (w.alloc (.cells #[.int .i64 0, .int .i64 0, .int .i64 0, .slice none 0 0, .slice none 0 0] 31)) from (Below.refl _ _).alloc (Nat.le_refl _) _)
  have HZ2 := Lib.hid (show Below w.heap.size w (w.alloc (.cells #[.int .i64 0, .int .i64 0, .int .i64 0, .slice none 0 0, .slice none 0 0] 31)).drew from HZ.out.trans ⟨rfl, rfl, rfl, Nat.le_refl _, fun _ _ => rfl⟩)
  have HR := Lib.hid (Blk.new w 31 #[.int .i64 0, .int .i64 0, .int .i64 0, .slice none 0 0, .slice none 0 0]).drew
  have HC1 := Lib.hid (fun (w2 : World) (hb : Below w.heap.size w w2) => mq_clone (c := d) (h1.below (hb.mono hB0) (Nat.le_refl _)) rfl l1)
  have HC2 := Lib.hid (fun (w2 : World) (hb : Below w.heap.size w w2) => mv_clone (c := e) (h2.below (hb.mono hB0) (Nat.le_refl _)) rfl l2)
  have HK := Lib.hid hb
  obtain ⟨n1, hn1⟩ : ∃ y, c.bt.length = y := ⟨_, rfl⟩
  obtain ⟨n2, hn2⟩ : ∃ y, c.vs.length = y := ⟨_, rfl⟩
  have HN := Lib.hid (And.intro hn1 hn2)
  rw [hn1] at HC1 HK
  rw [hn2] at HC2 HK
  rw [hn1, hn2]
  obtain ⟨c0, hc0⟩ : ∃ y, c.vw = y := ⟨_, rfl⟩
  obtain ⟨c1, hc1⟩ : ∃ y, c.ins = y := ⟨_, rfl⟩
  obtain ⟨c2, hc2⟩ : ∃ y, c.sq = y := ⟨_, rfl⟩
  rw [hc0, hc1, hc2] at HK ⊢
  have HCells := Lib.hid (fun (w2 : World) (hb : Below w.heap.size w w2) => show w2.cell? ⟨g, 0, none⟩ = some (.int .i64 c0) ∧ w2.cell? ⟨g, 1, none⟩ = some (.int .i64 c1) ∧ w2.cell? ⟨g, 2, none⟩ = some (.int .i64 c2) ∧ w2.cell? ⟨g, 3, none⟩ = some (.slice A n1 d) ∧ w2.cell? ⟨g, 4, none⟩ = some (.slice B n2 e) from
    have k := HK.out.below hb HK.out.lt
    ⟨k.cell 0, k.cell 1, k.cell 2, k.cell 3, k.cell 4⟩)
  have hq1 := HCells.out _ HZ2.out
  have hne : w.heap.size ≠ g := by have := HK.out.lt; omega
  have hne2 : g ≠ w.heap.size := fun e => hne e.symm
  clear hb h1 h2 hB0 l1 l2 hn1 hn2 hc0 hc1 hc2
  go_enter Try.func39, Try.ntmps39
  go_wp2_with fail
  go_region_held3 (fun w2 => w2.cell? ⟨g, 0, none⟩ = some (.int .i64 c0) ∧ w2.cell? ⟨g, 1, none⟩ = some (.int .i64 c1) ∧ w2.cell? ⟨g, 2, none⟩ = some (.int .i64 c2) ∧ w2.cell? ⟨g, 3, none⟩ = some (.slice A n1 d) ∧ w2.cell? ⟨g, 4, none⟩ = some (.slice B n2 e)) (first | with_reducible exact hq1 | with_reducible exact hq2 | with_reducible exact hq3 | go_keep)
    (first
      | (go_at_call 65; with_reducible refine (HC1.out _ HZ2.out).mono ?_; rintro e w2 ⟨v', rfl, ho, hb⟩; have hb2 := HZ2.out.trans (hb.mono HZ2.out.size); have hq2 := HCells.out _ hb2; have hr2 := HR.out.below hb HR.out.lt; obtain ⟨A3, d3, rfl, -, -⟩ := own_slice ho)
      | (go_at_call 66; with_reducible refine (HC2.out _ hb2).mono ?_; rintro e w3 ⟨v', rfl, ho3, hb3⟩; have hb4 := hb2.trans (hb3.mono hb2.size); have hq3 := HCells.out _ hb4; have hr3 := hr2.below hb3 hr2.lt; obtain ⟨e0, e1, e2, e3, e4, f0, f1, f2, f3, f4⟩ := blk_cells5 hr3; obtain ⟨A4, d4, rfl, -, -⟩ := own_slice ho3))
  have HO1 := Lib.hid (below_own ho hb3 (Nat.le_refl _))
  have HO2 := Lib.hid ho3
  have HB4 := Lib.hid hb4
  have hk := HB4.out.size
  have HK3 := Lib.hid hr3
  clear e0 e1 e2 e3 e4 f0 f1 f2 f3 f4
  go_wp2_with fail
  (try simp only [Exit.inBlock, Exit.then])
  refine bodyPost_ret (cert_cell rfl _ rfl (((((HK3.out.set_ 0 _).set_ 1 _).set_ 2 _).set_ 3 _).set_ 4 _)) rfl ?_
  have ht : Turn (fun k => k = w.heap.size) w3 (((((w3.setCell ⟨w.heap.size, 0, none⟩ (.int .i64 c0)).setCell ⟨w.heap.size, 1, none⟩ (.int .i64 c1)).setCell ⟨w.heap.size, 2, none⟩ (.int .i64 c2)).setCell ⟨w.heap.size, 3, none⟩ (.slice A3 n1 d3)).setCell ⟨w.heap.size, 4, none⟩ (.slice A4 n2 d4)) :=
    (((((Turn.refl (fun k => k = w.heap.size) w3).set_ ⟨w.heap.size, 0, none⟩ _ rfl).set_ ⟨w.heap.size, 1, none⟩ _ rfl).set_ ⟨w.heap.size, 2, none⟩ _ rfl).set_ ⟨w.heap.size, 3, none⟩ _ rfl).set_ ⟨w.heap.size, 4, none⟩ _ rfl
  have x1 := ht.own (own_base HO1.out (b' := w.heap.size) (by show _ ≤ (w.heap.push _).size; simp)) (fun j hj e => own_blk_ne HO1.out HK3.out (by decide) (hj.trans (congrArg some e)))
  have x2 := ht.own (own_base HO2.out (b' := w.heap.size) (Nat.le_trans HZ2.out.size (hb.size))) (fun j hj e => own_blk_ne HO2.out HK3.out (by decide) (hj.trans (congrArg some e)))
  refine ⟨A3, d3, A4, d4, rfl, ⟨by rw [HN.out.1]; exact x1, by rw [HN.out.2]; exact x2⟩, HB4.out.trans (ht.below HB4.out.size (fun k hk e => by omega))⟩
end
end Go.Proofs.Ytpdmflhbmimhgaa
namespace Go.Proofs.Ytpdmflhbmimhgaa
open Go.RowKit
set_option linter.unusedSimpArgs false

section
variable {w : World} {ib k : Nat} {x : Ix} {E : List Pe} {e : Pe}
theorem ivote_no (h : In w ib x E) {sq : Int} (ho : x.on = false ∨ ¬ (1 ≤ sq ∧ sq ≤ 16)) (kd nd sg : Int) (A : Option Addr) (n c : Nat) :
    Calls Try.prog 17 #[.pointer (some ⟨ib, 0, none⟩), .int .i64 kd, .int .i64 sq, .int .i64 nd, .int .i64 sg, .slice A n c] w fun e w' => e = .returned (.bool false) ∧ w = w' := by
  have HO := Lib.hid (iopen_no h ho)
  clear h ho
  go_enter Try.func17, Try.ntmps17
  go_wp2_with fail
  refine HO.out.mono ?_
  rintro e w1 ⟨rfl, rfl⟩
  go_wp2_with fail
  go_ret
  exact ⟨rfl, rfl⟩
set_option maxHeartbeats 1000000 in
theorem ivote_in (h : In w ib x E) (hk : E[k]? = some e) (hon : x.on = true) (kd nd sg : Int) {A : Option Addr} {n c B : Nat} {b : List Rq} (hb : Has w B A (reqCells b)) (hn : b.length = n) (hm : n ≤ 1000000) :
    Calls Try.prog 17 #[.pointer (some ⟨ib, 0, none⟩), .int .i64 kd, .int .i64 ((k : Int) + 1), .int .i64 nd, .int .i64 sg, .slice A n c] w fun e' w' => e' = .returned (.bool (e.x.s.vote kd nd sg b).1) ∧ IPost w ib E (x.put k ⟨(e.x.s.vote kd nd sg b).2, e.x.pr, e.x.co⟩) w' := by
  have hk16 : k < 16 := by have := (List.getElem?_eq_some_iff.1 hk).1; rw [h.ln] at this; exact this
  have HO := Lib.hid (iopen_in h hk16 hon)
  have c0 := h.cell0 hk
  have HV := Lib.hid (svote_any (c := c) (h.all k e hk).sl kd nd sg hb hn hm)
  have HP := Lib.hid (fun (w' : World) (hp : SlPost w (fun _ => True) e.sb e.v1 e.v2 x.f (e.x.s.vote kd nd sg b).2 w') => h.slot hk hp)
  obtain ⟨sb, hsb⟩ : ∃ y, e.sb = y := ⟨_, rfl⟩
  rw [hsb] at HV HP c0
  clear h hk hon hk16 hb hn hm hsb
  go_enter Try.func17, Try.ntmps17
  go_wp2_with fail
  refine HO.out.mono ?_
  rintro e1 w1 ⟨rfl, rfl⟩
  go_wp2_with fail
  refine HV.out.mono ?_
  rintro e2 w2 ⟨rfl, hp⟩
  have HR := Lib.hid (HP.out w2 hp)
  clear hp c0
  go_wp2_with fail
  go_ret
  exact ⟨rfl, HR.out⟩
theorem ipre_no (h : In w ib x E) {sq : Int} (ho : x.on = false ∨ ¬ (1 ≤ sq ∧ sq ≤ 16)) (A : Option Addr) (n c : Nat) :
    Calls Try.prog 15 #[.pointer (some ⟨ib, 0, none⟩), .int .i64 sq, .slice A n c] w fun e w' => e = .returned (.bool false) ∧ Below w.heap.size w w' := by
  have HO := Lib.hid (iopen_no h ho)
  clear h ho
  go_enter Try.func15, Try.ntmps15
  go_wp2_with fail
  refine HO.out.mono ?_
  rintro e w1 ⟨rfl, rfl⟩
  go_wp2_with fail
  go_quiet (fail)
  go_wp2_with fail
  go_ret
  exact ⟨rfl, rfl, rfl, rfl, Nat.le_refl _, fun _ _ => rfl⟩
set_option maxRecDepth 100000 in
set_option maxHeartbeats 1000000 in
theorem ipre_far (h : In w ib x E) (hk : k < 16) (hon : x.on = true) (hd : (doneL x.L : Int) + x.ah < (k : Int) + 1) (A : Option Addr) (n c : Nat) :
    Calls Try.prog 15 #[.pointer (some ⟨ib, 0, none⟩), .int .i64 ((k : Int) + 1), .slice A n c] w fun e w' => e = .returned (.bool false) ∧ Below w.heap.size w w' := by
  have HO := Lib.hid (iopen_in h hk hon)
  have HI := Lib.hid (show In w.drew ib x E from h.drewN 1)
  have HD := Lib.hid (show Below w.heap.size w w.drew from ⟨rfl, rfl, rfl, Nat.le_refl _, fun _ _ => rfl⟩)
  obtain ⟨-, c1, -, -⟩ := HI.out.hd
  have hq1 := c1
  have ha := h.ah
  obtain ⟨D, hD⟩ : ∃ D, doneL x.L = D := ⟨_, rfl⟩
  have hd16 : D ≤ 16 := by have := doneL_le x.L; rw [h.len, hD] at this; exact this
  have HDn := Lib.hid ((idone_any HI.out).mono (R' := fun e w' => e = .returned (.int .i64 (doneL x.L)) ∧ w' = w.drew) (fun _ _ he => ⟨he.1, he.2.symm⟩))
  rw [hD] at HDn hd
  obtain ⟨a, hA⟩ : ∃ a, x.ah = a := ⟨_, rfl⟩
  rw [hA] at c1 hq1 ha hd
  have g1 : decide ((k : Int) + 1 ≤ (D : Int) + a) = false := decide_eq_false (by omega)
  have g2 : IntKind.i64.wrap ((D : Int) + a) = (D : Int) + a := by rw [IntKind.wrap_i64]; omega
  clear h hon hD hA hd
  go_enter Try.func15, Try.ntmps15
  go_wp2_with fail
  refine HO.out.mono ?_
  rintro e w1 ⟨rfl, rfl⟩
  go_wp2_with fail
  go_still_tail 19, (by kernel_rfl)
  still_call HDn.out
  repeat still_step
  refine wpStill_nil ?_
  change wpList _ _ _ _ _ w.drew
  go_wp2_with fail
  go_ret
  exact ⟨rfl, HD.out⟩
set_option maxRecDepth 100000 in
set_option maxHeartbeats 1000000 in
theorem ipre_in (h : In w ib x E) (hk : E[k]? = some e) (hon : x.on = true) (hd : (k : Int) + 1 ≤ (doneL x.L : Int) + x.ah) {A : Option Addr} {n c B : Nat} {b : List Rq} (hb : Has w B A (reqCells b)) (hn : b.length = n) (hm : n ≤ 1000000) :
    Calls Try.prog 15 #[.pointer (some ⟨ib, 0, none⟩), .int .i64 ((k : Int) + 1), .slice A n c] w fun e' w' => e' = .returned (.bool (!e.x.s.ch.isSome)) ∧ IPost w ib E (x.put k ⟨e.x.s.pre b, e.x.pr, e.x.co⟩) w' := by
  have hk16 : k < 16 := by have := (List.getElem?_eq_some_iff.1 hk).1; rw [h.ln] at this; exact this
  have HO := Lib.hid (iopen_in h hk16 hon)
  have HI := Lib.hid (show In w.drew ib x E from h.drewN 1)
  obtain ⟨-, c1, -, -⟩ := HI.out.hd
  have c0 := HI.out.cell0 hk
  have HV := Lib.hid (spre_any (c := c) (HI.out.all k e hk).sl (hb.drewN 1) hn hm)
  have HP := Lib.hid (fun (w' : World) (hp : SlPost w.drew (fun _ => True) e.sb e.v1 e.v2 x.f (e.x.s.pre b) w') => show IPost w ib E (x.put k ⟨e.x.s.pre b, e.x.pr, e.x.co⟩) w' from
    IPost.trans (w' := w.drew) (E' := E) (fun _ hg => Or.inl hg) ((Turn.refl _ w).drewN 1) rfl (HI.out.slot hk hp))
  have ha := h.ah
  obtain ⟨D, hD⟩ : ∃ D, doneL x.L = D := ⟨_, rfl⟩
  have hd16 : D ≤ 16 := by have := doneL_le x.L; rw [h.len, hD] at this; exact this
  have HDn := Lib.hid ((idone_any HI.out).mono (R' := fun e w' => e = .returned (.int .i64 (doneL x.L)) ∧ w' = w.drew) (fun _ _ he => ⟨he.1, he.2.symm⟩))
  rw [hD] at HDn hd
  obtain ⟨a, hA⟩ : ∃ a, x.ah = a := ⟨_, rfl⟩
  rw [hA] at c1 ha hd
  have g1 : decide ((k : Int) + 1 ≤ (D : Int) + a) = true := decide_eq_true (by omega)
  have g2 : IntKind.i64.wrap ((D : Int) + a) = (D : Int) + a := by rw [IntKind.wrap_i64]; omega
  obtain ⟨sb, hsb⟩ : ∃ y, e.sb = y := ⟨_, rfl⟩
  rw [hsb] at HV HP c0
  obtain ⟨b1, hb1⟩ : ∃ y, (!e.x.s.ch.isSome) = y := ⟨_, rfl⟩
  rw [hb1] at HV ⊢
  clear h hk hon hk16 hb hn hm hsb hD hA hd HI hb1
  go_enter Try.func15, Try.ntmps15
  go_wp2_with fail
  refine HO.out.mono ?_
  rintro e1 w1 ⟨rfl, rfl⟩
  go_wp2_with fail
  go_still_tail 19, (by kernel_rfl)
  still_call HDn.out
  repeat still_step
  refine wpStill_nil ?_
  change wpList _ _ _ _ _ w.drew
  go_wp2_with fail
  refine HV.out.mono ?_
  rintro e2 w2 ⟨rfl, hp⟩
  have HR := Lib.hid (HP.out w2 hp)
  clear hp c0
  go_wp2_with fail
  go_ret
  exact ⟨rfl, HR.out⟩
end
end Go.Proofs.Ytpdmflhbmimhgaa
namespace Go.Proofs.Ytpdmflhbmimhgaa
open Go.RowKit
set_option linter.unusedSimpArgs false

section
variable {w : World} {ib k : Nat} {x : Ix} {E : List Pe} {e : Pe}
theorem cert_cell2 {fn : Func} {p u : Tmp} (h : fn.results = #[.cell p 31, .tmp u]) {w : World} {g : Nat} (tmps : Array Value) (hp : tmps.getD p undef = .pointer (some ⟨g, 0, none⟩)) {a b c d e : Value} (hb : Blk w g 31 #[a, b, c, d, e]) :
    (results fn tmps).run Try.prog w = .ok (.tuple #[.agg #[a, b, c, d, e], tmps.getD u undef]) w := by
  rw [results_cell_tmp h, hp]
  have : (loadVar 31 ⟨g, 0, none⟩).run Try.prog w = .ok (.agg #[a, b, c, d, e]) w := run_loadVar_row w g _ _ _ _ _ hb Try.underlying31 rfl (by kernel_rfl)
  simp [asAddr, Result.andThen, this]
theorem icommits_shut (h : In w ib x E) {sq : Int} (ho : x.on = false ∨ ¬ (1 ≤ sq ∧ sq ≤ 16)) :
    Calls Try.prog 18 #[.pointer (some ⟨ib, 0, none⟩), .int .i64 sq] w fun e w' => e = .returned (.tuple #[.agg #[.int .i64 0, .int .i64 0, .int .i64 0, .slice none 0 0, .slice none 0 0], .bool false]) ∧ Below w.heap.size w w' := by
  have HB := Lib.hid (show Below w.heap.size w (w.alloc (.cells #[.int .i64 0, .int .i64 0, .int .i64 0, .slice none 0 0, .slice none 0 0] 31)) from (Below.refl _ _).alloc (Nat.le_refl _) _)
  have HO := Lib.hid (iopen_no (h.below HB.out) ho)
  clear h ho
  go_enter Try.func18, Try.ntmps18
  go_wp2_with fail
  refine HO.out.mono ?_
  rintro e w1 ⟨rfl, rfl⟩
  go_wp2_with fail
  (try simp only [Exit.inBlock, Exit.then])
  refine bodyPost_ret (cert_cell2 rfl _ rfl (Blk.new w 31 #[.int .i64 0, .int .i64 0, .int .i64 0, .slice none 0 0, .slice none 0 0])) rfl ?_
  exact ⟨rfl, HB.out⟩
theorem In.k16 (h : In w ib x E) (hk : E[k]? = some e) : k < 16 := by
  have := (List.getElem?_eq_some_iff.1 hk).1
  rw [h.ln] at this
  exact this
theorem icommits_had (h : In w ib x E) (hk : E[k]? = some e) (hon : x.on = true) (hc : e.x.co.isSome = true) :
    Calls Try.prog 18 #[.pointer (some ⟨ib, 0, none⟩), .int .i64 ((k : Int) + 1)] w fun e w' => e = .returned (.tuple #[.agg #[.int .i64 0, .int .i64 0, .int .i64 0, .slice none 0 0, .slice none 0 0], .bool false]) ∧ Below w.heap.size w w' := by
  have HB := Lib.hid (show Below w.heap.size w (w.alloc (.cells #[.int .i64 0, .int .i64 0, .int .i64 0, .slice none 0 0, .slice none 0 0] 31)) from (Below.refl _ _).alloc (Nat.le_refl _) _)
  have HI := Lib.hid (h.below HB.out)
  have HO := Lib.hid (iopen_in HI.out (h.k16 hk) hon)
  have c2 := HI.out.cell2 hk
  have hs := ((h.all k e hk).co).isSome
  rw [hc] at hs
  cases hca : e.ca with
  | none => rw [hca] at hs; cases hs
  | some g =>
    rw [hca] at c2
    change _ = some (Value.pointer (some ⟨g, 0, none⟩)) at c2
    clear h hk hon hc hs hca HI
    go_enter Try.func18, Try.ntmps18
    go_wp2_with fail
    refine HO.out.mono ?_
    rintro e w1 ⟨rfl, rfl⟩
    go_wp2_with fail
    (try simp only [Exit.inBlock, Exit.then])
    refine bodyPost_ret (cert_cell2 rfl _ rfl (Blk.new w 31 #[.int .i64 0, .int .i64 0, .int .i64 0, .slice none 0 0, .slice none 0 0])) rfl ?_
    exact ⟨rfl, HB.out⟩
set_option maxHeartbeats 1000000 in
theorem icommits_none (h : In w ib x E) (hk : E[k]? = some e) (hon : x.on = true) (hc : e.x.co = none) {q : Nat} (hq : (q : Int) = 2 * x.f + 1) (hn : e.x.s.com q = none) :
    Calls Try.prog 18 #[.pointer (some ⟨ib, 0, none⟩), .int .i64 ((k : Int) + 1)] w fun e w' => e = .returned (.tuple #[.agg #[.int .i64 0, .int .i64 0, .int .i64 0, .slice none 0 0, .slice none 0 0], .bool false]) ∧ Below w.heap.size w w' := by
  have HB := Lib.hid (show Below w.heap.size w (w.alloc (.cells #[.int .i64 0, .int .i64 0, .int .i64 0, .slice none 0 0, .slice none 0 0] 31)) from (Below.refl _ _).alloc (Nat.le_refl _) _)
  have HZ := Lib.hid (Blk.new w 31 #[.int .i64 0, .int .i64 0, .int .i64 0, .slice none 0 0, .slice none 0 0])
  have HI := Lib.hid (h.below HB.out)
  have HO := Lib.hid (iopen_in HI.out (h.k16 hk) hon)
  have c2 := HI.out.cell2 hk
  have c0 := HI.out.cell0 hk
  have hs := ((h.all k e hk).co).isSome
  have HC := Lib.hid (scom_any (HI.out.all k e hk).sl hq)
  rw [hn] at HC
  obtain ⟨sb, hsb⟩ : ∃ y, e.sb = y := ⟨_, rfl⟩
  rw [hsb] at HC c0
  rw [hc] at hs
  cases hca : e.ca with
  | some g => rw [hca] at hs; cases hs
  | none =>
    rw [hca] at c2
    change _ = some (Value.pointer none) at c2
    clear h hk hon hc hs hca HI hq hn hsb
    go_enter Try.func18, Try.ntmps18
    go_wp2_with fail
    refine HO.out.mono ?_
    rintro e1 w1 ⟨rfl, rfl⟩
    go_wp2_with fail
    refine HC.out.mono ?_
    rintro e2 w2 ⟨u1, u2, rfl, ho1, ho2, hb⟩
    obtain ⟨A1, d1, rfl, -, -⟩ := own_slice ho1
    obtain ⟨A2, d2, rfl, -, -⟩ := own_slice ho2
    have HZ2 := Lib.hid (HZ.out.below hb HZ.out.lt)
    obtain ⟨e0, e1, e2, e3, e4, f0, f1, f2, f3, f4⟩ := blk_cells5 HZ2.out
    have HB2 := Lib.hid (HB.out.trans (hb.mono HB.out.size))
    clear ho1 ho2 hb c0 c2
    go_wp2_with fail
    (try simp only [Exit.inBlock, Exit.then])
    refine bodyPost_ret (cert_cell2 rfl _ rfl (((((HZ2.out.set_ 0 _).set_ 1 _).set_ 2 _).set_ 3 _).set_ 4 _)) rfl ?_
    refine ⟨rfl, HB2.out.trans (Turn.below (Z := fun k => k = w.heap.size) (((((((Turn.refl (fun k => k = w.heap.size) w2).set_ ⟨w.heap.size, 0, none⟩ _ rfl).set_ ⟨w.heap.size, 1, none⟩ _ rfl).set_ ⟨w.heap.size, 2, none⟩ _ rfl).set_ ⟨w.heap.size, 3, none⟩ _ rfl).set_ ⟨w.heap.size, 4, none⟩ _ rfl)) HB2.out.size (fun k hk e => by omega))⟩
end
end Go.Proofs.Ytpdmflhbmimhgaa
