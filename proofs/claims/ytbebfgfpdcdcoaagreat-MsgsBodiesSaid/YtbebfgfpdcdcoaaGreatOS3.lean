/- What the takers of lists of certificates and of parts keep: the variable's block, the row that grows, the rows within what was taken. -/
import Derived.Test.YtbebfgfpdcdcoaaGreatOTakeBatch
namespace Go.Proofs.YtbebfgfpdcdcoaaGreat
open Go.RowKit

/-- The variable's block w.heap.size, of type T, and the row L of the call's own, of that type too. -/
structure Tkg (T : TypeId) (s : Nat) (w W : World) (L : Value) (n : Nat) (xs : List Value) (cs : Array Value) : Prop where
  bl : Below w.heap.size w W
  blk : Blk W w.heap.size T cs
  row : W.ownsRow (w.heap.size + 1) T s L n xs
/-- Rows of other types than T are kept. -/
def KeepsRows (T : TypeId) (W W' : World) : Prop := ∀ b e s v n xs, e ≠ T → W.ownsRow b e s v n xs → W'.ownsRow b e s v n xs
section
variable {T : TypeId} {s n : Nat} {w W W' : World} {L : Value} {xs : List Value} {cs : Array Value}
theorem Tkg.set_ (h : Tkg T s w W L n xs cs) (i : Nat) (v : Value) : Tkg T s w (W.setCell ⟨w.heap.size, i, none⟩ v) L n xs (cs.setIfInBounds i v) :=
  ⟨h.bl.setCell (p := ⟨w.heap.size, i, none⟩) (Nat.le_refl _) v, h.blk.set_ i v, own_far h.row (p := ⟨w.heap.size, i, none⟩) (own_blk_lt h.row (Nat.lt_succ_self _)) v⟩
theorem Tkg.below (h : Tkg T s w W L n xs cs) (hb : Below W.heap.size W W') : Tkg T s w W' L n xs cs :=
  ⟨h.bl.trans (hb.mono h.bl.size), h.blk.below hb h.blk.lt, below_own h.row hb (Nat.le_refl _)⟩
theorem Tkg.app (h : Tkg T s w W L n xs cs) {o : Obj} {L2 : Value} {news : List Value} (ho : W'.ownsRow (w.heap.size + 1) T s L2 (n + 1) (xs ++ news)) (hg : (W.alloc o).grownBy W' L.ownBlock) : Tkg T s w W' L2 (n + 1) (xs ++ news) cs :=
  ⟨(h.bl.alloc h.bl.size o).grown hg (by have := h.bl.size; simp; omega) (fun k hk => by have := (h.row.lt k hk).1; omega), (h.blk.alloc o).grown hg (fun he => own_blk_lt h.row (Nat.lt_succ_self _) he.symm), ho⟩
theorem Tkg.cell (h : Tkg T s w W L n xs cs) (i : Nat) : W.cell? ⟨w.heap.size, i, none⟩ = cs[i]? := h.blk.cell i
theorem Tkg.frozen (h : Tkg T s w W L n xs cs) (i : Nat) : W.frozen? ⟨w.heap.size, i, none⟩ = false := h.blk.frozen i
theorem KeepsRows.trans {W'' : World} (h : KeepsRows T W W') (k : KeepsRows T W' W'') : KeepsRows T W W'' := fun b e s v n xs hne ho => k b e s v n xs hne (h b e s v n xs hne ho)
theorem KeepsRows.set_ (h : Tkg T s w W L n xs cs) (i : Nat) (v : Value) : KeepsRows T W (W.setCell ⟨w.heap.size, i, none⟩ v) := fun _ _ _ _ _ _ hne ho =>
  own_far ho (p := ⟨w.heap.size, i, none⟩) (own_blk_ne ho h.blk hne) v
theorem KeepsRows.below (hb : Below W.heap.size W W') : KeepsRows T W W' := fun _ _ _ _ _ _ _ ho => below_own ho hb (Nat.le_refl _)
theorem KeepsRows.app (h : Tkg T s w W L n xs cs) {o : Obj} (hg : (W.alloc o).grownBy W' L.ownBlock) : KeepsRows T W W' := fun _ _ _ _ _ _ hne ho =>
  (ho.alloc o).kept hg (own_apart (ho.alloc o) (h.row.alloc o) hne)
end
/-- A row of any size of elements, as a slice that reads so. -/
theorem Has.ownS {w : World} {base n c s : Nat} {e : TypeId} {A : Option Addr} {xs : List Value} (h : w.ownsRow base e s (.slice A n c) n xs) : Has w w.heap.size A xs := fun j u hj => by
  have hl : j < xs.length := (List.getElem?_eq_some_iff.1 hj).1
  have hn : 0 < n := by
    have := h.1
    rcases Nat.eq_zero_or_pos n with h0 | h0
    · subst h0; rw [Nat.zero_mul] at this; omega
    · exact h0
  obtain ⟨g, cap, hv, _, hlt⟩ := h.form hn
  have hA : A = some ⟨g, 0, none⟩ := by injection hv
  subst hA
  exact ⟨_, rfl, hlt, h.cells (g := g) rfl j u hj⟩
/-- A certificate whose lists are rows of the call's own. -/
structure Cs.Own (w : World) (b : Nat) (x : Cs) : Prop where
  bt : w.ownsRow b 69 6 (.slice x.A1 x.c.bt.length x.c1) x.c.bt.length (reqCells x.c.bt)
  vs : w.ownsRow b 65 2 (.slice x.A2 x.c.vs.length x.c2) x.c.vs.length (voteCells x.c.vs)
theorem Cs.Own.keeps {T : TypeId} {w w' : World} {b : Nat} {x : Cs} (h : x.Own w b) (hk : KeepsRows T w w') (h1 : 69 ≠ T) (h2 : 65 ≠ T) : x.Own w' b := ⟨hk _ _ _ _ _ _ h1 h.bt, hk _ _ _ _ _ _ h2 h.vs⟩
theorem Cs.Own.base {w : World} {b b' : Nat} {x : Cs} (h : x.Own w b) (hb : b' ≤ b) : x.Own w b' := ⟨own_base h.bt hb, own_base h.vs hb⟩
theorem Cs.Own.in_ {w : World} {b : Nat} {x : Cs} (h : x.Own w b) : x.In w w.heap.size := ⟨Has.ownS h.bt, Has.ownS h.vs⟩
/-- The slice v is a row of the call's own that reads as certificates. -/
def OwnCerts (w : World) (b : Nat) (v : Value) (l : List Ct) : Prop := ∃ L : List Cs, L.map Cs.c = l ∧ w.ownsRow b 25 5 v L.length (L.flatMap Cs.cells) ∧ ∀ x ∈ L, x.Own w b
theorem OwnCerts.nil (w : World) (b : Nat) : OwnCerts w b (.slice none 0 0) [] := ⟨[], rfl, World.ownsRow_nil _ _ _ _, by simp⟩
theorem OwnCerts.keeps {T : TypeId} {w w' : World} {b : Nat} {v : Value} {l : List Ct} (h : OwnCerts w b v l) (hk : KeepsRows T w w') (h0 : 25 ≠ T) (h1 : 69 ≠ T) (h2 : 65 ≠ T) : OwnCerts w' b v l := by
  obtain ⟨L, e, ho, hi⟩ := h
  exact ⟨L, e, hk _ _ _ _ _ _ h0 ho, fun x hx => (hi x hx).keeps hk h1 h2⟩
theorem OwnCerts.below {w w' : World} {b : Nat} {v : Value} {l : List Ct} (h : OwnCerts w b v l) (hb : Below w.heap.size w w') : OwnCerts w' b v l := by
  obtain ⟨L, e, ho, hi⟩ := h
  exact ⟨L, e, below_own ho hb (Nat.le_refl _), fun x hx => ⟨below_own (hi x hx).bt hb (Nat.le_refl _), below_own (hi x hx).vs hb (Nat.le_refl _)⟩⟩
theorem OwnCerts.base {w : World} {b b' : Nat} {v : Value} {l : List Ct} (h : OwnCerts w b v l) (hb : b' ≤ b) : OwnCerts w b' v l := by
  obtain ⟨L, e, ho, hi⟩ := h
  exact ⟨L, e, own_base ho hb, fun x hx => (hi x hx).base hb⟩
theorem OwnCerts.has {w : World} {b c : Nat} {A : Option Addr} {l : List Ct} (h : OwnCerts w b (.slice A l.length c) l) : HasCerts w w.heap.size A l := by
  obtain ⟨L, e, ho, hi⟩ := h
  have hl : L.length = l.length := by rw [← e]; simp
  rw [← hl] at ho
  exact ⟨L, e, Has.ownS ho, fun x hx => (hi x hx).in_⟩
theorem OwnCerts.slice {w : World} {b : Nat} {v : Value} {l : List Ct} (h : OwnCerts w b v l) : ∃ A c, v = .slice A l.length c ∧ l.length ≤ c ∧ c ≤ maxLen := by
  obtain ⟨L, e, ho, hi⟩ := h
  have hl : L.length = l.length := by rw [← e]; simp
  rw [hl] at ho
  exact own_slice ho
/-- A part whose lists are the call's own. -/
structure Ps.Own (w : World) (b : Nat) (x : Ps) : Prop where
  vs : w.ownsRow b 65 2 (.slice x.A1 x.p.vs.length x.c1) x.p.vs.length (voteCells x.p.vs)
  cs : OwnCerts w b (.slice x.A2 x.p.cs.length x.c2) x.p.cs
theorem Ps.Own.keeps {T : TypeId} {w w' : World} {b : Nat} {x : Ps} (h : x.Own w b) (hk : KeepsRows T w w') (h0 : 25 ≠ T) (h1 : 69 ≠ T) (h2 : 65 ≠ T) : x.Own w' b := ⟨hk _ _ _ _ _ _ h2 h.vs, h.cs.keeps hk h0 h1 h2⟩
theorem Ps.Own.base {w : World} {b b' : Nat} {x : Ps} (h : x.Own w b) (hb : b' ≤ b) : x.Own w b' := ⟨own_base h.vs hb, h.cs.base hb⟩
def OwnParts (w : World) (b : Nat) (v : Value) (l : List Pt) : Prop := ∃ L : List Ps, L.map Ps.p = l ∧ w.ownsRow b 73 4 v L.length (L.flatMap Ps.cells) ∧ ∀ x ∈ L, x.Own w b
theorem OwnParts.base {w : World} {b b' : Nat} {v : Value} {l : List Pt} (h : OwnParts w b v l) (hb : b' ≤ b) : OwnParts w b' v l := by
  obtain ⟨L, e, ho, hi⟩ := h
  exact ⟨L, e, own_base ho hb, fun x hx => (hi x hx).base hb⟩
theorem OwnParts.below {w w' : World} {b : Nat} {v : Value} {l : List Pt} (h : OwnParts w b v l) (hb : Below w.heap.size w w') : OwnParts w' b v l := by
  obtain ⟨L, e, ho, hi⟩ := h
  exact ⟨L, e, below_own ho hb (Nat.le_refl _), fun x hx => ⟨below_own (hi x hx).vs hb (Nat.le_refl _), (hi x hx).cs.below hb⟩⟩
theorem OwnParts.has {w : World} {b c : Nat} {A : Option Addr} {l : List Pt} (h : OwnParts w b (.slice A l.length c) l) : HasParts w w.heap.size A l := by
  obtain ⟨L, e, ho, hi⟩ := h
  have hl : L.length = l.length := by rw [← e]; simp
  rw [← hl] at ho
  exact ⟨L, e, Has.ownS ho, fun x hx => ⟨Has.ownS (hi x hx).vs, (hi x hx).cs.has⟩⟩
theorem OwnParts.slice {w : World} {b : Nat} {v : Value} {l : List Pt} (h : OwnParts w b v l) : ∃ A c, v = .slice A l.length c ∧ l.length ≤ c ∧ c ≤ maxLen := by
  obtain ⟨L, e, ho, hi⟩ := h
  have hl : L.length = l.length := by rw [← e]; simp
  rw [hl] at ho
  exact own_slice ho
/-- A row, as a word of its own. -/
theorem own_keepB {w w' : World} {b n s : Nat} {e : TypeId} {v : Value} {xs : List Value} (h : w.ownsRow b e s v n xs) (hb : Below w.heap.size w w') : w'.ownsRow b e s v n xs := below_own h hb (Nat.le_refl _)
theorem own_keepK {T : TypeId} {w w' : World} {b n s : Nat} {e : TypeId} {v : Value} {xs : List Value} (h : w.ownsRow b e s v n xs) (hk : KeepsRows T w w') (hne : e ≠ T) : w'.ownsRow b e s v n xs := hk _ _ _ _ _ _ hne h
theorem ownCerts_b {w : World} {b b' : Nat} {v : Value} {l : List Ct} (h : OwnCerts w b v l) (hb : b' ≤ b) : OwnCerts w b' v l := h.base hb
end Go.Proofs.YtbebfgfpdcdcoaaGreat
