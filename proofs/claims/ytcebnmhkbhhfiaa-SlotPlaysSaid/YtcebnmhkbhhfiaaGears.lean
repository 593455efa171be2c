/- Words on memory: a block that is known whole; what a call keeps that writes on through a writer. -/
import Derived.Test.YtcebnmhkbhhfiaaWords
import Derived.Laws.OwnMore
import Derived.Laws.Rows
import Derived.Deep.Draws
import Derived.Lib.Hide
namespace Go.Proofs.Ytcebnmhkbhhfiaa
open Go.RowKit

def fit (z : Int) : Prop := (Lit.int .i64 z).wf = true
/-- Block g is just these cells. -/
def Blk (w : World) (g : Nat) (t : TypeId) (cs : Array Value) : Prop := w.heap[g]? = some (.cells cs t (0, 0))
section
variable {w w' : World} {g : Nat} {t : TypeId} {cs : Array Value}
theorem Blk.lt (h : Blk w g t cs) : g < w.heap.size := by
  rcases Nat.lt_or_ge g w.heap.size with hlt | hge
  · exact hlt
  · unfold Blk at h; rw [Array.getElem?_eq_none hge] at h; cases h
theorem Blk.cell (h : Blk w g t cs) (i : Nat) : w.cell? ⟨g, i, none⟩ = cs[i]? := cell_of_row w g i cs t (0, 0) h
theorem Blk.frozen (h : Blk w g t cs) (i : Nat) : w.frozen? ⟨g, i, none⟩ = false := by
  unfold Blk at h
  simp [World.frozen?, h]
theorem Blk.new (w : World) (t : TypeId) (cs : Array Value) : Blk (w.alloc (.cells cs t)) w.heap.size t cs := heap_alloc_new w _
theorem Blk.new1 (w : World) (o : Obj) (t : TypeId) (cs : Array Value) : Blk ((w.alloc o).alloc (.cells cs t)) (w.heap.size + 1) t cs := by
  have h := Blk.new (w.alloc o) t cs
  simpa using h
theorem Blk.drew (h : Blk w g t cs) : Blk w.drew g t cs := h
theorem Blk.drewN (h : Blk w g t cs) (n : Nat) : Blk (w.drewN n) g t cs := h
theorem Blk.alloc (h : Blk w g t cs) (o : Obj) : Blk (w.alloc o) g t cs := (Below.heap_alloc w o g h.lt).trans h
theorem Blk.set_ (h : Blk w g t cs) (i : Nat) (u : Value) : Blk (w.setCell ⟨g, i, none⟩ u) g t (cs.setIfInBounds i u) := by
  unfold Blk at h ⊢
  simp [World.setCell, Array.getElem?_modify, h]
theorem Blk.far (h : Blk w g t cs) {p : Addr} (hp : g ≠ p.block) (u : Value) : Blk (w.setCell p u) g t cs := (Below.heap_setCell w p u g hp).trans h
theorem Blk.below {B : Nat} (h : Blk w g t cs) (hb : Below B w w') (hg : g < B) : Blk w' g t cs := (hb.block g hg).trans h
theorem Blk.grown {row : Option Nat} (h : Blk w g t cs) (hb : w.grownBy w' row) (hg : some g ≠ row) : Blk w' g t cs := (hb.block g h.lt hg).trans h
theorem Blk.ne_ {g' : Nat} {t' : TypeId} {cs' : Array Value} (h : Blk w g t cs) (h' : Blk w g' t' cs') (hne : t ≠ t') : g ≠ g' := by
  rintro rfl
  unfold Blk at h h'
  rw [h] at h'
  injection h' with h'
  injection h' with _ ht
  exact hne ht
theorem own_blk_ne {base : Nat} {e : TypeId} {size n : Nat} {v : Value} {xs : List Value} (h : w.ownsRow base e size v n xs) (hg : Blk w g t cs) (hne : e ≠ t) : v.ownBlock ≠ some g := by
  rcases h.2 with ⟨rfl, _⟩ | ⟨g', cap, cur, rfl, _, hh, _⟩
  · simp [Value.ownBlock]
  · intro he
    have : g' = g := by simpa [Value.ownBlock] using he
    subst this
    exact Blk.ne_ (t := e) hh hg hne rfl
/-- A row of the call's own is kept by a store into another block. -/
theorem own_far {base n size : Nat} {e : TypeId} {v : Value} {xs : List Value} (h : w.ownsRow base e size v n xs) {p : Addr} (hp : v.ownBlock ≠ some p.block) (u : Value) : (w.setCell p u).ownsRow base e size v n xs := by
  refine ⟨h.1, ?_⟩
  rcases h.2 with h2 | ⟨g', cap, cur, hv, hg, hh, r⟩
  · exact Or.inl h2
  · refine Or.inr ⟨g', cap, cur, hv, hg, (Below.heap_setCell w p u g' fun he => hp ?_).trans hh, r⟩
    rw [hv, ← he]; rfl
/-- What it holds, as a slice of its own. -/
theorem Blk.has (h : Blk w g t cs) {B : Nat} (hB : g < B) : Has w B (some ⟨g, 0, none⟩) cs.toList := fun j u hj => by
  refine ⟨_, rfl, hB, ?_⟩
  rw [addr_at, h.cell]
  simpa using hj
end

/-- From B on only block g has changed, and rows of element type t; below B nothing. -/
structure Kept (B g : Nat) (t : TypeId) (w w' : World) : Prop where
  os : w'.os = w.os
  tape : w'.tape = w.tape
  output : w'.output = w.output
  size : w.heap.size ≤ w'.heap.size
  block : ∀ k, k < w.heap.size → k ≠ g → (B ≤ k → ∀ cs fr, w.heap[k]? ≠ some (.cells cs t fr)) → w'.heap[k]? = w.heap[k]?
section
variable {B g : Nat} {t : TypeId} {a b c : World}
theorem Kept.refl (B g : Nat) (t : TypeId) (w : World) : Kept B g t w w := ⟨rfl, rfl, rfl, Nat.le_refl _, fun _ _ _ _ => rfl⟩
theorem Kept.trans (h : Kept B g t a b) (k : Kept B g t b c) : Kept B g t a c :=
  ⟨k.os.trans h.os, k.tape.trans h.tape, k.output.trans h.output, Nat.le_trans h.size k.size, fun i hi hg ht =>
    (k.block i (Nat.lt_of_lt_of_le hi h.size) hg (fun hB cs fr => by rw [h.block i hi hg ht]; exact ht hB cs fr)).trans (h.block i hi hg ht)⟩
theorem Kept.below (h : Kept B g t a b) (hg : B ≤ g) {B' : Nat} (hB : B' ≤ B) (hs : B' ≤ a.heap.size) : Below B' a b :=
  ⟨h.os, h.tape, h.output, h.size, fun k hk => h.block k (by omega) (by omega) (fun h2 => by omega)⟩
theorem Kept.of_below (h : Below B a b) (hs : B = a.heap.size) (B' g : Nat) (t : TypeId) : Kept B' g t a b :=
  ⟨h.os, h.tape, h.output, h.size, fun k hk _ _ => h.block k (by omega)⟩
theorem Kept.alloc (h : Kept B g t a b) (o : Obj) : Kept B g t a (b.alloc o) := h.trans ⟨rfl, rfl, rfl, by simp, fun k hk _ _ => Below.heap_alloc b o k hk⟩
theorem Kept.drew (h : Kept B g t a b) : Kept B g t a b.drew := ⟨h.os, h.tape, h.output, h.size, h.block⟩
theorem Kept.drewN (h : Kept B g t a b) (n : Nat) : Kept B g t a (b.drewN n) := ⟨h.os, h.tape, h.output, h.size, h.block⟩
theorem Kept.grown (h : Kept B g t a b) {base : Nat} {v : Value} {n s : Nat} {xs : List Value} (ho : b.ownsRow base t s v n xs) (hB : B ≤ base) (hg : b.grownBy c v.ownBlock) : Kept B g t a c := by
  refine h.trans ⟨hg.os, hg.tape, hg.output, hg.size, fun k hk _ ht => hg.block k hk fun he => ?_⟩
  rcases ho.2 with ⟨rfl, _⟩ | ⟨g', cap, cur, rfl, hg', hh, _⟩
  · cases he
  · injection he with he
    have he : g' = k := he.symm
    subst he
    exact ht (by omega) _ _ hh
theorem Kept.set_ (h : Kept B g t a b) (i : Nat) (u : Value) : Kept B g t a (b.setCell ⟨g, i, none⟩ u) :=
  h.trans ⟨rfl, rfl, rfl, by simp, fun k _ hk _ => Below.heap_setCell b _ u k hk⟩
theorem Kept.blk (h : Kept B g t a b) {k : Nat} {t' : TypeId} {cs : Array Value} (hb : Blk a k t' cs) (hne : t' ≠ t) (hk : k ≠ g) : Blk b k t' cs :=
  (h.block k hb.lt hk (fun _ cs' fr he => by
    unfold Blk at hb
    rw [hb] at he
    injection he with he
    injection he with _ he
    exact hne he)).trans hb
theorem Kept.has (h : Kept B g t a b) (hg : B ≤ g) {A : Option Addr} {xs : List Value} (hh : Has a B A xs) : Has b B A xs := fun j u hj => by
  obtain ⟨ad, e, hlt, hc⟩ := hh j u hj
  have hl := block_lt hc
  refine ⟨ad, e, hlt, ?_⟩
  rw [addr_block] at hl
  refine (World.cell?_of_block (w := a) ?_).trans hc
  rw [addr_block]
  exact h.block ad.block hl (by omega) (fun h2 => by omega)
end
theorem Has.set_far {w : World} {B : Nat} {A : Option Addr} {xs : List Value} (h : Has w B A xs) {p : Addr} (hp : ∀ ad, A = some ad → ad.block ≠ p.block) (u : Value) : Has (w.setCell p u) B A xs := fun j v hj => by
  obtain ⟨ad, e, hb, hc⟩ := h j v hj
  refine ⟨ad, e, hb, (World.cell?_of_block (w := w) ?_).trans hc⟩
  rw [addr_block]
  exact Below.heap_setCell w p u ad.block (hp ad e)
theorem i64_one (l : List Int) : ∀ u ∈ l.map (Value.int .i64), u.oneCell' = true := by
  intro u hu
  obtain ⟨z, _, rfl⟩ := List.mem_map.1 hu
  rfl
end Go.Proofs.Ytcebnmhkbhhfiaa
