/- The contracts of the document's own Eye: a number, a list's length. -/
import Derived.Test.YtkkaedcgpbjbmaaTakeKit
import Derived.Deep.QuietTactic
import Derived.BigQuiet
namespace Go.Proofs.Ytkkaedcgpbjbmaa
open Go.RowKit

theorem quiet_left {P : Program} {f : FuncId} {args : Array Value} {w : World} {n : Nat} {v : Value}
    (h : Calls P f args (w.drewN n) fun e w' => e = .returned v ∧ w.drewN n = w') : Calls P f args (w.drewN n) fun e w'' => e = .returned v ∧ ∃ m, w'' = w.drewN m :=
  h.mono fun _ _ ⟨he, hm⟩ => ⟨he, n, hm.symm⟩
/-- Only block g has changed, and what is new. -/
structure Only (g : Nat) (w w' : World) : Prop where
  os : w'.os = w.os
  tape : w'.tape = w.tape
  output : w'.output = w.output
  size : w.heap.size ≤ w'.heap.size
  block : ∀ k, k < w.heap.size → k ≠ g → w'.heap[k]? = w.heap[k]?
section
variable {g : Nat} {a b c : World}
theorem Only.refl (g : Nat) (w : World) : Only g w w := ⟨rfl, rfl, rfl, Nat.le_refl _, fun _ _ _ => rfl⟩
theorem Only.trans (h : Only g a b) (k : Only g b c) : Only g a c :=
  ⟨k.os.trans h.os, k.tape.trans h.tape, k.output.trans h.output, Nat.le_trans h.size k.size, fun i hi hg => (k.block i (Nat.lt_of_lt_of_le hi h.size) hg).trans (h.block i hi hg)⟩
theorem Only.drewN (h : Only g a b) (n : Nat) : Only g a (b.drewN n) := ⟨h.os, h.tape, h.output, h.size, h.block⟩
theorem Only.set_ (h : Only g a b) (i : Nat) (u : Value) : Only g a (b.setCell ⟨g, i, none⟩ u) := h.trans ⟨rfl, rfl, rfl, by simp, fun k _ hk => Below.heap_setCell b _ u k hk⟩
theorem Only.alloc (h : Only g a b) (o : Obj) : Only g a (b.alloc o) := h.trans ⟨rfl, rfl, rfl, by simp, fun k hk _ => Below.heap_alloc b o k hk⟩
theorem Only.below {B : Nat} (h : Only g a b) (hB : B ≤ g) (hs : B ≤ a.heap.size) : Below B a b := ⟨h.os, h.tape, h.output, h.size, fun k hk => h.block k (by omega) (by omega)⟩
theorem Only.of_below (h : Below a.heap.size a b) : Only g a b := ⟨h.os, h.tape, h.output, h.size, fun k hk _ => h.block k hk⟩
theorem Only.grown (h : Only g a b) {row : Option Nat} (hg : b.grownBy c row) (hr : ∀ k, row = some k → a.heap.size ≤ k ∨ k = g) : Only g a c :=
  ⟨hg.os.trans h.os, hg.tape.trans h.tape, hg.output.trans h.output, Nat.le_trans h.size hg.size, fun k hk hkg => (hg.block k (Nat.lt_of_lt_of_le hk h.size) (fun he => by rcases hr k he.symm with h1 | h1 <;> omega)).trans (h.block k hk hkg)⟩
theorem Only.blk (h : Only g a b) {k : Nat} {t : TypeId} {cs : Array Value} (hb : Blk a k t cs) (hk : k ≠ g) : Blk b k t cs := (h.block k hb.lt hk).trans hb
theorem Only.own (h : Only g a b) {base n s : Nat} {e : TypeId} {v : Value} {xs : List Value} (ho : a.ownsRow base e s v n xs) (hg : v.ownBlock ≠ some g) : b.ownsRow base e s v n xs := by
  refine ⟨ho.1, ?_⟩
  rcases ho.2 with h2 | ⟨g', cap, cur, hv, hb, hh, r⟩
  · exact Or.inl h2
  · have hlt := (ho.lt g' (by rw [hv]; rfl)).2
    exact Or.inr ⟨g', cap, cur, hv, hb, (h.block g' hlt (fun he => hg (by rw [hv, ← he]; rfl))).trans hh, r⟩
theorem Only.has (h : Only g a b) {A : Option Addr} {xs : List Value} {B : Nat} (hh : Has a B A xs) (hg : ∀ ad, A = some ad → ad.block ≠ g) : Has b B A xs := fun j u hj => by
  obtain ⟨ad, e, hlt, hc⟩ := hh j u hj
  refine ⟨ad, e, hlt, (World.cell?_of_block (w := a) ?_).trans hc⟩
  rw [addr_block]
  have := block_lt hc
  rw [addr_block] at this
  exact h.block ad.block this (hg ad e)
end

/-- Block g is an Eye over the bytes X, at a place, or bad. -/
def EyeHas (w : World) (g : Nat) (X : Value) (st : Option Int) : Prop :=
  ∃ (p : Int) (bad : Bool), Blk w g 70 #[X, .int .i64 p, .bool bad] ∧ p ≤ 9223372036854775807 ∧ ((st = some p ∧ bad = false) ∨ (st = none ∧ bad = true))
/-- What a taker does to the state, and what it gives. -/
def Eyed {α : Type} (f : Tkr α) (st st' : Option Int) (x : α) : Prop := match st with
  | none => st' = none
  | some p => match f p with
    | some (y, k) => st' = some k ∧ x = y
    | none => st' = none
theorem EyeHas.only {w w' : World} {g g' : Nat} {X : Value} {st : Option Int} (h : EyeHas w g X st) (ho : Only g' w w') (hg : g ≠ g') : EyeHas w' g X st := by
  obtain ⟨p, bad, h1, h2⟩ := h
  exact ⟨p, bad, ho.blk h1 hg, h2⟩
theorem EyeHas.lt {w : World} {g : Nat} {X : Value} {st : Option Int} (h : EyeHas w g X st) : g < w.heap.size := by
  obtain ⟨p, bad, h1, h2⟩ := h
  exact h1.lt
/-- What a call of the Eye's for a number does. -/
def NumSeen (f : Tkr Int) (g : Nat) (X : Value) (st : Option Int) (w : World) (e : Ending) (w' : World) : Prop :=
  ∃ (n : Int) (st' : Option Int), e = .returned (.int .i64 n) ∧ Eyed f st st' n ∧ EyeHas w' g X st' ∧ Only g w w' ∧ w'.heap.size = w.heap.size ∧ 0 ≤ n ∧ n ≤ 1099511627775

set_option maxHeartbeats 1000000 in
set_option maxRecDepth 100000 in
theorem eye_number (A : Option Addr) (cap : Nat) (zs : List Int) (B g : Nat) (st : Option Int) (hl : zs.length ≤ 9223372036854775806) (hz : ∀ z ∈ zs, 0 ≤ z ∧ z ≤ 255) (w : World) (he : EyeHas w g (.slice A zs.length cap) st) (hh : Has w B A (u8s zs)) :
    Calls Try.prog 61 #[.pointer (some ⟨g, 0, none⟩)] w (NumSeen (tkNum zs) g (.slice A zs.length cap) st w) := by
  obtain ⟨p, bad, hb, hp, hs⟩ := he
  have ce0 : w.cell? ⟨g, 0, none⟩ = some (.slice A zs.length cap) := hb.cell 0
  have ce1 : w.cell? ⟨g, 1, none⟩ = some (.int .i64 p) := hb.cell 1
  have ce2 : w.cell? ⟨g, 2, none⟩ = some (.bool bad) := hb.cell 2
  have fr1 := hb.frozen 1
  have fr2 := hb.frozen 2
  have HB := Lib.hid hb
  have HH := Lib.hid hh
  rcases hs with ⟨rfl, rfl⟩ | ⟨rfl, rfl⟩
  · have HC := Lib.hid (fun w h => reftake_any A cap zs B p w hl hp hz h)
    rcases tk_cases zs p hz with ⟨h1, h2⟩ | ⟨m, q, k, hpq, h1, h2, _, h3, h4, _⟩
    · rw [h2] at HC
      have HCc := Lib.hid (show ∀ w, Has w B A (u8s zs) → Calls Try.prog 75 #[.slice A zs.length cap, .int .i64 p] w fun e w' => e = .returned (.tuple #[.int .i64 0, .int .i64 0, .bool false]) ∧ w = w' from HC.out)
      have HF := Lib.hid (show Eyed (tkNum zs) (some p) none 0 by simp [Eyed, tkNum, h1])
      clear hb hh h1 h2 HC hz
      go_enter Try.func61, Try.ntmps61
      go_wp2
      go_quiet ((go_at_call 75; exact quiet_left (HCc.out _ (HH.out.drewN _))))
      go_wp2
      go_ret
      refine ⟨0, none, rfl, HF.out, ⟨0, true, ((HB.out.drewN _).set_ 2 (.bool true)).set_ 1 (.int .i64 0), by omega, Or.inr ⟨rfl, rfl⟩⟩, (((Only.refl g w).drewN _).set_ 2 _).set_ 1 _, by simp, by omega, by omega⟩
    · subst hpq
      rw [h2] at HC
      have HCc := Lib.hid (show ∀ w, Has w B A (u8s zs) → Calls Try.prog 75 #[.slice A zs.length cap, .int .i64 (q : Int)] w fun e w' => e = .returned (.tuple #[.int .i64 m, .int .i64 k, .bool true]) ∧ w = w' from HC.out)
      have HF := Lib.hid (show Eyed (tkNum zs) (some (q : Int)) (some (k : Int)) (m : Int) by simp [Eyed, tkNum, h1])
      clear hb hh h1 h2 HC hz
      go_enter Try.func61, Try.ntmps61
      go_wp2
      go_quiet ((go_at_call 75; exact quiet_left (HCc.out _ (HH.out.drewN _))))
      go_wp2
      go_ret
      refine ⟨m, some k, rfl, HF.out, ⟨k, false, ((HB.out.drewN _).set_ 2 (.bool false)).set_ 1 (.int .i64 k), by omega, Or.inl ⟨rfl, rfl⟩⟩, (((Only.refl g w).drewN _).set_ 2 _).set_ 1 _, by simp, by omega, by omega⟩
  · clear hb hh
    go_enter Try.func61, Try.ntmps61
    go_wp2
    go_ret
    exact ⟨0, none, rfl, rfl, ⟨p, true, HB.out, hp, Or.inr ⟨rfl, rfl⟩⟩, Only.refl _ _, rfl, by omega, by omega⟩
end Go.Proofs.Ytkkaedcgpbjbmaa
