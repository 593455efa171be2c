/- The contracts of package notary: New, Find, Check, Len, Seal. -/
import Derived.Test.YtcebnmhkbhhfiaaSeals
import Derived.Deep.QuietTactic
import Derived.BigQuiet
import Derived.Deep.RegionLaw
import Derived.RegionTactic
namespace Go.Proofs.Ytcebnmhkbhhfiaa
open Go.RowKit Go.Maps

/-- But for the blocks of Z, and what is new, nothing has changed. -/
structure Turn (Z : Nat → Prop) (w w' : World) : Prop where
  os : w'.os = w.os
  tape : w'.tape = w.tape
  output : w'.output = w.output
  size : w.heap.size ≤ w'.heap.size
  block : ∀ k, k < w.heap.size → ¬ Z k → w'.heap[k]? = w.heap[k]?
section
variable {Z Z' : Nat → Prop} {a b c : World}
theorem Turn.refl (Z : Nat → Prop) (w : World) : Turn Z w w := ⟨rfl, rfl, rfl, Nat.le_refl _, fun _ _ _ => rfl⟩
theorem Turn.trans (h : Turn Z a b) (k : Turn Z b c) : Turn Z a c :=
  ⟨k.os.trans h.os, k.tape.trans h.tape, k.output.trans h.output, Nat.le_trans h.size k.size, fun i hi hg => (k.block i (Nat.lt_of_lt_of_le hi h.size) hg).trans (h.block i hi hg)⟩
theorem Turn.mono (h : Turn Z a b) (hz : ∀ k, k < a.heap.size → Z k → Z' k) : Turn Z' a b := ⟨h.os, h.tape, h.output, h.size, fun k hk hn => h.block k hk (fun hz' => hn (hz k hk hz'))⟩
theorem Turn.drewN (h : Turn Z a b) (n : Nat) : Turn Z a (b.drewN n) := ⟨h.os, h.tape, h.output, h.size, h.block⟩
theorem Turn.alloc (h : Turn Z a b) (o : Obj) : Turn Z a (b.alloc o) := h.trans ⟨rfl, rfl, rfl, by simp, fun k hk _ => Below.heap_alloc b o k hk⟩
theorem Turn.set_ (h : Turn Z a b) (p : Addr) (u : Value) (hp : Z p.block) : Turn Z a (b.setCell p u) := h.trans ⟨rfl, rfl, rfl, by simp, fun k _ hk => Below.heap_setCell b _ u k (fun e => hk (e ▸ hp))⟩
theorem Turn.grown (h : Turn Z a b) {row : Option Nat} (hg : b.grownBy c row) (hr : ∀ k, row = some k → k < a.heap.size → Z k) : Turn Z a c :=
  ⟨hg.os.trans h.os, hg.tape.trans h.tape, hg.output.trans h.output, Nat.le_trans h.size hg.size, fun k hk hkg => (hg.block k (Nat.lt_of_lt_of_le hk h.size) (fun he => hkg (hr k he.symm hk))).trans (h.block k hk hkg)⟩
theorem Turn.of_below (h : Below a.heap.size a b) : Turn Z a b := ⟨h.os, h.tape, h.output, h.size, fun k hk _ => h.block k hk⟩
theorem Turn.below (h : Turn Z a b) {B : Nat} (hB : B ≤ a.heap.size) (hz : ∀ k, k < B → ¬ Z k) : Below B a b := ⟨h.os, h.tape, h.output, h.size, fun k hk => h.block k (by omega) (hz k hk)⟩
theorem Turn.blk (h : Turn Z a b) {k : Nat} {t : TypeId} {cs : Array Value} (hb : Blk a k t cs) (hk : ¬ Z k) : Blk b k t cs := (h.block k hb.lt hk).trans hb
theorem Turn.own (h : Turn Z a b) {base n s : Nat} {e : TypeId} {v : Value} {xs : List Value} (ho : a.ownsRow base e s v n xs) (hg : ∀ g, v.ownBlock = some g → ¬ Z g) : b.ownsRow base e s v n xs := by
  refine ⟨ho.1, ?_⟩
  rcases ho.2 with h2 | ⟨g', cap, cur, hv, hb, hh, r⟩
  · exact Or.inl h2
  · have hlt := (ho.lt g' (by rw [hv]; rfl)).2
    exact Or.inr ⟨g', cap, cur, hv, hb, (h.block g' hlt (hg g' (by rw [hv]; rfl))).trans hh, r⟩
theorem Turn.map (h : Turn Z a b) {k : TypeId} {R : Value → Option (DataW Unit × List MemPlace)} {g n : Nat} {D : DataW Unit} (ho : a.ownsMap Try.prog k R g n D) (hg : ¬ Z g) : b.ownsMap Try.prog k R g n D := by
  have hlt := ho.lt
  obtain ⟨es, clock, hb, r⟩ := ho
  exact ⟨es, clock, (h.block g hlt hg).trans hb, r⟩
theorem Turn.has (h : Turn Z a b) {A : Option Addr} {xs : List Value} {B : Nat} (hh : Has a B A xs) (hg : ∀ ad, A = some ad → ¬ Z ad.block) : Has b B A xs := fun j u hj => by
  obtain ⟨ad, e, hlt, hc⟩ := hh j u hj
  refine ⟨ad, e, hlt, (World.cell?_of_block (w := a) ?_).trans hc⟩
  rw [addr_block]
  have := block_lt hc
  rw [addr_block] at this
  exact h.block ad.block this (hg ad e)
end

theorem has_zone {w w' : World} {Z : Nat → Prop} {B : Nat} {A : Option Addr} {xs : List Value} (h : Has w B A xs) (ht : Turn Z w w') (hz : ∀ k, k < B → ¬ Z k) : Has w' B A xs := fun j u hj => by
  obtain ⟨ad, e, hlt, hc⟩ := h j u hj
  refine ⟨ad, e, hlt, (World.cell?_of_block (w := w) ?_).trans hc⟩
  rw [addr_block]
  have := block_lt hc
  rw [addr_block] at this
  exact ht.block ad.block this (hz _ hlt)
theorem has_apart {w w' : World} {Z : Nat → Prop} {B : Nat} {A : Option Addr} {xs : List Value} (h : Has w B A xs) (ht : Turn Z w w') (hz : ∀ ad, A = some ad → xs ≠ [] → ¬ Z ad.block) : Has w' B A xs := fun j u hj => by
  obtain ⟨ad, e, hlt, hc⟩ := h j u hj
  refine ⟨ad, e, hlt, (World.cell?_of_block (w := w) ?_).trans hc⟩
  rw [addr_block]
  have := block_lt hc
  rw [addr_block] at this
  exact ht.block ad.block this (hz ad e (fun e => by rw [e] at hj; simp at hj))
theorem zero_int (w : World) : (zeroValue 3).run Try.prog w = .ok (.int .i64 0) w := by kernel_rfl
theorem million_lt {n : Nat} (h : n ≤ 1000000) : n < maxLen := by unfold maxLen; omega
/-- What Check tells. -/
def checkS (l : List Deed) (d : Deed) (k : Int) : Bool := decide (d ∈ l) && decide (findS l d = k)
end Go.Proofs.Ytcebnmhkbhhfiaa
