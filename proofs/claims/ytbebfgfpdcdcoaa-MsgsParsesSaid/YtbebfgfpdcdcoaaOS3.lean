/- What the takers of lists of certificates and of parts keep: the variable's block, the row that grows, the rows within what was taken. -/
import Derived.Test.YtbebfgfpdcdcoaaOTakeBatch
import Derived.Deep.QuietTactic
import Derived.BigQuiet
namespace Go.Proofs.Ytbebfgfpdcdcoaa
open Go.RowKit

/-- The variable's block w.heap.size, of type T, and the row L of the call's own, of that type too. -/
structure Tkg (T : TypeId) (s : Nat) (w W : World) (L : Value) (n : Nat) (xs : List Value) (cs : Array Value) : Prop where
  bl : Below w.heap.size w W
  blk : Blk W w.heap.size T cs
  row : W.ownsRow (w.heap.size + 1) T s L n xs
/-- Rows of other types than T are kept. -/
def KeepsRows (T : TypeId) (W W' : World) : Prop := ∀ b e s v n xs, e ≠ T → W.ownsRow b e s v n xs → W'.ownsRow b e s v n xs
section
variable {T : TypeId} {s n : Nat} {w W W' : World} {L : Value} {xs : List Value} {cs : Array Value}
theorem Tkg.set_ (h : Tkg T s w W L n xs cs) (i : Nat) (v : Value) : Tkg T s w (W.setCell ⟨w.heap.size, i, none⟩ v) L n xs (cs.setIfInBounds i v) :=
  ⟨h.bl.setCell (p := ⟨w.heap.size, i, none⟩) (Nat.le_refl _) v, h.blk.set_ i v, own_far h.row (p := ⟨w.heap.size, i, none⟩) (own_blk_lt h.row (Nat.lt_succ_self _)) v⟩
theorem Tkg.below (h : Tkg T s w W L n xs cs) (hb : Below W.heap.size W W') : Tkg T s w W' L n xs cs :=
  ⟨h.bl.trans (hb.mono h.bl.size), h.blk.below hb h.blk.lt, below_own h.row hb (Nat.le_refl _)⟩
theorem Tkg.app (h : Tkg T s w W L n xs cs) {o : Obj} {L2 : Value} {news : List Value} (ho : W'.ownsRow (w.heap.size + 1) T s L2 (n + 1) (xs ++ news)) (hg : (W.alloc o).grownBy W' L.ownBlock) : Tkg T s w W' L2 (n + 1) (xs ++ news) cs :=
  ⟨(h.bl.alloc h.bl.size o).grown hg (by have := h.bl.size; simp; omega) (fun k hk => by have := (h.row.lt k hk).1; omega), (h.blk.alloc o).grown hg (fun he => own_blk_lt h.row (Nat.lt_succ_self _) he.symm), ho⟩
theorem Tkg.cell (h : Tkg T s w W L n xs cs) (i : Nat) : W.cell? ⟨w.heap.size, i, none⟩ = cs[i]? := h.blk.cell i
theorem Tkg.frozen (h : Tkg T s w W L n xs cs) (i : Nat) : W.frozen? ⟨w.heap.size, i, none⟩ = false := h.blk.frozen i
theorem KeepsRows.trans {W'' : World} (h : KeepsRows T W W') (k : KeepsRows T W' W'') : KeepsRows T W W'' := fun b e s v n xs hne ho => k b e s v n xs hne (h b e s v n xs hne ho)
theorem KeepsRows.set_ (h : Tkg T s w W L n xs cs) (i : Nat) (v : Value) : KeepsRows T W (W.setCell ⟨w.heap.size, i, none⟩ v) := fun _ _ _ _ _ _ hne ho =>
  own_far ho (p := ⟨w.heap.size, i, none⟩) (own_blk_ne ho h.blk hne) v
theorem KeepsRows.below (hb : Below W.heap.size W W') : KeepsRows T W W' := fun _ _ _ _ _ _ _ ho => below_own ho hb (Nat.le_refl _)
theorem KeepsRows.app (h : Tkg T s w W L n xs cs) {o : Obj} (hg : (W.alloc o).grownBy W' L.ownBlock) : KeepsRows T W W' := fun _ _ _ _ _ _ hne ho =>
  (ho.alloc o).kept hg (own_apart (ho.alloc o) (h.row.alloc o) hne)
end
/-- A row of any size of elements, as a slice that reads so. -/
theorem Has.ownS {w : World} {base n c s : Nat} {e : TypeId} {A : Option Addr} {xs : List Value} (h : w.ownsRow base e s (.slice A n c) n xs) : Has w w.heap.size A xs := fun j u hj => by
  have hl : j < xs.length := (List.getElem?_eq_some_iff.1 hj).1
  have hn : 0 < n := by
    have := h.1
    rcases Nat.eq_zero_or_pos n with h0 | h0
    · subst h0; rw [Nat.zero_mul] at this; omega
    · exact h0
  obtain ⟨g, cap, hv, _, hlt⟩ := h.form hn
  have hA : A = some ⟨g, 0, none⟩ := by injection hv
  subst hA
  exact ⟨_, rfl, hlt, h.cells (g := g) rfl j u hj⟩
/-- A certificate whose lists are rows of the call's own. -/
structure Cs.Own (w : World) (b : Nat) (x : Cs) : Prop where
  bt : w.ownsRow b 75 6 (.slice x.A1 x.c.bt.length x.c1) x.c.bt.length (reqCells x.c.bt)
  vs : w.ownsRow b 78 2 (.slice x.A2 x.c.vs.length x.c2) x.c.vs.length (voteCells x.c.vs)
theorem Cs.Own.keeps {T : TypeId} {w w' : World} {b : Nat} {x : Cs} (h : x.Own w b) (hk : KeepsRows T w w') (h1 : 75 ≠ T) (h2 : 78 ≠ T) : x.Own w' b := ⟨hk _ _ _ _ _ _ h1 h.bt, hk _ _ _ _ _ _ h2 h.vs⟩
theorem Cs.Own.base {w : World} {b b' : Nat} {x : Cs} (h : x.Own w b) (hb : b' ≤ b) : x.Own w b' := ⟨own_base h.bt hb, own_base h.vs hb⟩
theorem Cs.Own.in_ {w : World} {b : Nat} {x : Cs} (h : x.Own w b) : x.In w w.heap.size := ⟨Has.ownS h.bt, Has.ownS h.vs⟩
/-- The slice v is a row of the call's own that reads as certificates. -/
def OwnCerts (w : World) (b : Nat) (v : Value) (l : List Ct) : Prop := ∃ L : List Cs, L.map Cs.c = l ∧ w.ownsRow b 102 5 v L.length (L.flatMap Cs.cells) ∧ ∀ x ∈ L, x.Own w b
theorem OwnCerts.nil (w : World) (b : Nat) : OwnCerts w b (.slice none 0 0) [] := ⟨[], rfl, World.ownsRow_nil _ _ _ _, by simp⟩
theorem OwnCerts.keeps {T : TypeId} {w w' : World} {b : Nat} {v : Value} {l : List Ct} (h : OwnCerts w b v l) (hk : KeepsRows T w w') (h0 : 102 ≠ T) (h1 : 75 ≠ T) (h2 : 78 ≠ T) : OwnCerts w' b v l := by
  obtain ⟨L, e, ho, hi⟩ := h
  exact ⟨L, e, hk _ _ _ _ _ _ h0 ho, fun x hx => (hi x hx).keeps hk h1 h2⟩
theorem OwnCerts.below {w w' : World} {b : Nat} {v : Value} {l : List Ct} (h : OwnCerts w b v l) (hb : Below w.heap.size w w') : OwnCerts w' b v l := by
  obtain ⟨L, e, ho, hi⟩ := h
  exact ⟨L, e, below_own ho hb (Nat.le_refl _), fun x hx => ⟨below_own (hi x hx).bt hb (Nat.le_refl _), below_own (hi x hx).vs hb (Nat.le_refl _)⟩⟩
theorem OwnCerts.base {w : World} {b b' : Nat} {v : Value} {l : List Ct} (h : OwnCerts w b v l) (hb : b' ≤ b) : OwnCerts w b' v l := by
  obtain ⟨L, e, ho, hi⟩ := h
  exact ⟨L, e, own_base ho hb, fun x hx => (hi x hx).base hb⟩
theorem OwnCerts.has {w : World} {b c : Nat} {A : Option Addr} {l : List Ct} (h : OwnCerts w b (.slice A l.length c) l) : HasCerts w w.heap.size A l := by
  obtain ⟨L, e, ho, hi⟩ := h
  have hl : L.length = l.length := by rw [← e]; simp
  rw [← hl] at ho
  exact ⟨L, e, Has.ownS ho, fun x hx => (hi x hx).in_⟩
theorem OwnCerts.slice {w : World} {b : Nat} {v : Value} {l : List Ct} (h : OwnCerts w b v l) : ∃ A c, v = .slice A l.length c ∧ l.length ≤ c ∧ c ≤ maxLen := by
  obtain ⟨L, e, ho, hi⟩ := h
  have hl : L.length = l.length := by rw [← e]; simp
  rw [hl] at ho
  exact own_slice ho
/-- A part whose lists are the call's own. -/
structure Ps.Own (w : World) (b : Nat) (x : Ps) : Prop where
  vs : w.ownsRow b 78 2 (.slice x.A1 x.p.vs.length x.c1) x.p.vs.length (voteCells x.p.vs)
  cs : OwnCerts w b (.slice x.A2 x.p.cs.length x.c2) x.p.cs
theorem Ps.Own.keeps {T : TypeId} {w w' : World} {b : Nat} {x : Ps} (h : x.Own w b) (hk : KeepsRows T w w') (h0 : 102 ≠ T) (h1 : 75 ≠ T) (h2 : 78 ≠ T) : x.Own w' b := ⟨hk _ _ _ _ _ _ h2 h.vs, h.cs.keeps hk h0 h1 h2⟩
theorem Ps.Own.base {w : World} {b b' : Nat} {x : Ps} (h : x.Own w b) (hb : b' ≤ b) : x.Own w b' := ⟨own_base h.vs hb, h.cs.base hb⟩
def OwnParts (w : World) (b : Nat) (v : Value) (l : List Pt) : Prop := ∃ L : List Ps, L.map Ps.p = l ∧ w.ownsRow b 61 4 v L.length (L.flatMap Ps.cells) ∧ ∀ x ∈ L, x.Own w b
theorem OwnParts.base {w : World} {b b' : Nat} {v : Value} {l : List Pt} (h : OwnParts w b v l) (hb : b' ≤ b) : OwnParts w b' v l := by
  obtain ⟨L, e, ho, hi⟩ := h
  exact ⟨L, e, own_base ho hb, fun x hx => (hi x hx).base hb⟩
theorem OwnParts.below {w w' : World} {b : Nat} {v : Value} {l : List Pt} (h : OwnParts w b v l) (hb : Below w.heap.size w w') : OwnParts w' b v l := by
  obtain ⟨L, e, ho, hi⟩ := h
  exact ⟨L, e, below_own ho hb (Nat.le_refl _), fun x hx => ⟨below_own (hi x hx).vs hb (Nat.le_refl _), (hi x hx).cs.below hb⟩⟩
theorem OwnParts.has {w : World} {b c : Nat} {A : Option Addr} {l : List Pt} (h : OwnParts w b (.slice A l.length c) l) : HasParts w w.heap.size A l := by
  obtain ⟨L, e, ho, hi⟩ := h
  have hl : L.length = l.length := by rw [← e]; simp
  rw [← hl] at ho
  exact ⟨L, e, Has.ownS ho, fun x hx => ⟨Has.ownS (hi x hx).vs, (hi x hx).cs.has⟩⟩
theorem OwnParts.slice {w : World} {b : Nat} {v : Value} {l : List Pt} (h : OwnParts w b v l) : ∃ A c, v = .slice A l.length c ∧ l.length ≤ c ∧ c ≤ maxLen := by
  obtain ⟨L, e, ho, hi⟩ := h
  have hl : L.length = l.length := by rw [← e]; simp
  rw [hl] at ho
  exact own_slice ho
/-- A row, as a word of its own. -/
theorem own_keepB {w w' : World} {b n s : Nat} {e : TypeId} {v : Value} {xs : List Value} (h : w.ownsRow b e s v n xs) (hb : Below w.heap.size w w') : w'.ownsRow b e s v n xs := below_own h hb (Nat.le_refl _)
theorem own_keepK {T : TypeId} {w w' : World} {b n s : Nat} {e : TypeId} {v : Value} {xs : List Value} (h : w.ownsRow b e s v n xs) (hk : KeepsRows T w w') (hne : e ≠ T) : w'.ownsRow b e s v n xs := hk _ _ _ _ _ _ hne h
theorem ownCerts_b {w : World} {b b' : Nat} {v : Value} {l : List Ct} (h : OwnCerts w b v l) (hb : b' ≤ b) : OwnCerts w b' v l := h.base hb
end Go.Proofs.Ytbebfgfpdcdcoaa
/- The contracts of the document's own Eye: a number, a list's length. -/
namespace Go.Proofs.Ytbebfgfpdcdcoaa
open Go.RowKit

theorem quiet_left {P : Program} {f : FuncId} {args : Array Value} {w : World} {n : Nat} {v : Value}
    (h : Calls P f args (w.drewN n) fun e w' => e = .returned v ∧ w.drewN n = w') : Calls P f args (w.drewN n) fun e w'' => e = .returned v ∧ ∃ m, w'' = w.drewN m :=
  h.mono fun _ _ ⟨he, hm⟩ => ⟨he, n, hm.symm⟩
/-- Only block g has changed, and what is new. -/
structure Only (g : Nat) (w w' : World) : Prop where
  os : w'.os = w.os
  tape : w'.tape = w.tape
  output : w'.output = w.output
  size : w.heap.size ≤ w'.heap.size
  block : ∀ k, k < w.heap.size → k ≠ g → w'.heap[k]? = w.heap[k]?
section
variable {g : Nat} {a b c : World}
theorem Only.refl (g : Nat) (w : World) : Only g w w := ⟨rfl, rfl, rfl, Nat.le_refl _, fun _ _ _ => rfl⟩
theorem Only.trans (h : Only g a b) (k : Only g b c) : Only g a c :=
  ⟨k.os.trans h.os, k.tape.trans h.tape, k.output.trans h.output, Nat.le_trans h.size k.size, fun i hi hg => (k.block i (Nat.lt_of_lt_of_le hi h.size) hg).trans (h.block i hi hg)⟩
theorem Only.drewN (h : Only g a b) (n : Nat) : Only g a (b.drewN n) := ⟨h.os, h.tape, h.output, h.size, h.block⟩
theorem Only.set_ (h : Only g a b) (i : Nat) (u : Value) : Only g a (b.setCell ⟨g, i, none⟩ u) := h.trans ⟨rfl, rfl, rfl, by simp, fun k _ hk => Below.heap_setCell b _ u k hk⟩
theorem Only.alloc (h : Only g a b) (o : Obj) : Only g a (b.alloc o) := h.trans ⟨rfl, rfl, rfl, by simp, fun k hk _ => Below.heap_alloc b o k hk⟩
theorem Only.below {B : Nat} (h : Only g a b) (hB : B ≤ g) (hs : B ≤ a.heap.size) : Below B a b := ⟨h.os, h.tape, h.output, h.size, fun k hk => h.block k (by omega) (by omega)⟩
theorem Only.of_below (h : Below a.heap.size a b) : Only g a b := ⟨h.os, h.tape, h.output, h.size, fun k hk _ => h.block k hk⟩
theorem Only.grown (h : Only g a b) {row : Option Nat} (hg : b.grownBy c row) (hr : ∀ k, row = some k → a.heap.size ≤ k ∨ k = g) : Only g a c :=
  ⟨hg.os.trans h.os, hg.tape.trans h.tape, hg.output.trans h.output, Nat.le_trans h.size hg.size, fun k hk hkg => (hg.block k (Nat.lt_of_lt_of_le hk h.size) (fun he => by rcases hr k he.symm with h1 | h1 <;> omega)).trans (h.block k hk hkg)⟩
theorem Only.blk (h : Only g a b) {k : Nat} {t : TypeId} {cs : Array Value} (hb : Blk a k t cs) (hk : k ≠ g) : Blk b k t cs := (h.block k hb.lt hk).trans hb
theorem Only.own (h : Only g a b) {base n s : Nat} {e : TypeId} {v : Value} {xs : List Value} (ho : a.ownsRow base e s v n xs) (hg : v.ownBlock ≠ some g) : b.ownsRow base e s v n xs := by
  refine ⟨ho.1, ?_⟩
  rcases ho.2 with h2 | ⟨g', cap, cur, hv, hb, hh, r⟩
  · exact Or.inl h2
  · have hlt := (ho.lt g' (by rw [hv]; rfl)).2
    exact Or.inr ⟨g', cap, cur, hv, hb, (h.block g' hlt (fun he => hg (by rw [hv, ← he]; rfl))).trans hh, r⟩
theorem Only.has (h : Only g a b) {A : Option Addr} {xs : List Value} {B : Nat} (hh : Has a B A xs) (hg : ∀ ad, A = some ad → ad.block ≠ g) : Has b B A xs := fun j u hj => by
  obtain ⟨ad, e, hlt, hc⟩ := hh j u hj
  refine ⟨ad, e, hlt, (World.cell?_of_block (w := a) ?_).trans hc⟩
  rw [addr_block]
  have := block_lt hc
  rw [addr_block] at this
  exact h.block ad.block this (hg ad e)
end

/-- Block g is an Eye over the bytes X, at a place, or bad. -/
def EyeHas (w : World) (g : Nat) (X : Value) (st : Option Int) : Prop :=
  ∃ (p : Int) (bad : Bool), Blk w g 93 #[X, .int .i64 p, .bool bad] ∧ p ≤ 9223372036854775807 ∧ ((st = some p ∧ bad = false) ∨ (st = none ∧ bad = true))
/-- What a taker does to the state, and what it gives. -/
def Eyed {α : Type} (f : Tkr α) (st st' : Option Int) (x : α) : Prop := match st with
  | none => st' = none
  | some p => match f p with
    | some (y, k) => st' = some k ∧ x = y
    | none => st' = none
theorem EyeHas.only {w w' : World} {g g' : Nat} {X : Value} {st : Option Int} (h : EyeHas w g X st) (ho : Only g' w w') (hg : g ≠ g') : EyeHas w' g X st := by
  obtain ⟨p, bad, h1, h2⟩ := h
  exact ⟨p, bad, ho.blk h1 hg, h2⟩
theorem EyeHas.lt {w : World} {g : Nat} {X : Value} {st : Option Int} (h : EyeHas w g X st) : g < w.heap.size := by
  obtain ⟨p, bad, h1, h2⟩ := h
  exact h1.lt
/-- What a call of the Eye's for a number does. -/
def NumSeen (f : Tkr Int) (g : Nat) (X : Value) (st : Option Int) (w : World) (e : Ending) (w' : World) : Prop :=
  ∃ (n : Int) (st' : Option Int), e = .returned (.int .i64 n) ∧ Eyed f st st' n ∧ EyeHas w' g X st' ∧ Only g w w' ∧ w'.heap.size = w.heap.size ∧ 0 ≤ n ∧ n ≤ 1099511627775

set_option maxHeartbeats 1000000 in
set_option maxRecDepth 100000 in
theorem eye_number (A : Option Addr) (cap : Nat) (zs : List Int) (B g : Nat) (st : Option Int) (hl : zs.length ≤ 9223372036854775806) (hz : ∀ z ∈ zs, 0 ≤ z ∧ z ≤ 255) (w : World) (he : EyeHas w g (.slice A zs.length cap) st) (hh : Has w B A (u8s zs)) :
    Calls Try.prog 42 #[.pointer (some ⟨g, 0, none⟩)] w (NumSeen (tkNum zs) g (.slice A zs.length cap) st w) := by
  obtain ⟨p, bad, hb, hp, hs⟩ := he
  have ce0 : w.cell? ⟨g, 0, none⟩ = some (.slice A zs.length cap) := hb.cell 0
  have ce1 : w.cell? ⟨g, 1, none⟩ = some (.int .i64 p) := hb.cell 1
  have ce2 : w.cell? ⟨g, 2, none⟩ = some (.bool bad) := hb.cell 2
  have fr1 := hb.frozen 1
  have fr2 := hb.frozen 2
  have HB := Lib.hid hb
  have HH := Lib.hid hh
  rcases hs with ⟨rfl, rfl⟩ | ⟨rfl, rfl⟩
  · have HC := Lib.hid (fun w h => reftake_any A cap zs B p w hl hp hz h)
    rcases tk_cases zs p hz with ⟨h1, h2⟩ | ⟨m, q, k, hpq, h1, h2, _, h3, h4, _⟩
    · rw [h2] at HC
      have HCc := Lib.hid (show ∀ w, Has w B A (u8s zs) → Calls Try.prog 72 #[.slice A zs.length cap, .int .i64 p] w fun e w' => e = .returned (.tuple #[.int .i64 0, .int .i64 0, .bool false]) ∧ w = w' from HC.out)
      have HF := Lib.hid (show Eyed (tkNum zs) (some p) none 0 by simp [Eyed, tkNum, h1])
      clear hb hh h1 h2 HC hz
      go_enter Try.func42, Try.ntmps42
      go_wp2
      go_quiet ((go_at_call 72; exact quiet_left (HCc.out _ (HH.out.drewN _))))
      go_wp2
      go_ret
      refine ⟨0, none, rfl, HF.out, ⟨0, true, ((HB.out.drewN _).set_ 2 (.bool true)).set_ 1 (.int .i64 0), by omega, Or.inr ⟨rfl, rfl⟩⟩, (((Only.refl g w).drewN _).set_ 2 _).set_ 1 _, by simp, by omega, by omega⟩
    · subst hpq
      rw [h2] at HC
      have HCc := Lib.hid (show ∀ w, Has w B A (u8s zs) → Calls Try.prog 72 #[.slice A zs.length cap, .int .i64 (q : Int)] w fun e w' => e = .returned (.tuple #[.int .i64 m, .int .i64 k, .bool true]) ∧ w = w' from HC.out)
      have HF := Lib.hid (show Eyed (tkNum zs) (some (q : Int)) (some (k : Int)) (m : Int) by simp [Eyed, tkNum, h1])
      clear hb hh h1 h2 HC hz
      go_enter Try.func42, Try.ntmps42
      go_wp2
      go_quiet ((go_at_call 72; exact quiet_left (HCc.out _ (HH.out.drewN _))))
      go_wp2
      go_ret
      refine ⟨m, some k, rfl, HF.out, ⟨k, false, ((HB.out.drewN _).set_ 2 (.bool false)).set_ 1 (.int .i64 k), by omega, Or.inl ⟨rfl, rfl⟩⟩, (((Only.refl g w).drewN _).set_ 2 _).set_ 1 _, by simp, by omega, by omega⟩
  · clear hb hh
    go_enter Try.func42, Try.ntmps42
    go_wp2
    go_ret
    exact ⟨0, none, rfl, rfl, ⟨p, true, HB.out, hp, Or.inr ⟨rfl, rfl⟩⟩, Only.refl _ _, rfl, by omega, by omega⟩
end Go.Proofs.Ytbebfgfpdcdcoaa
/- The contracts of the document's own Eye: a list's length, a request, votes. -/
namespace Go.Proofs.Ytbebfgfpdcdcoaa
open Go.RowKit

section
variable {g : Nat} {a b : World} {st : Option Int} {X : Value}
theorem Only.hasB {A : Option Addr} {xs : List Value} {B : Nat} (h : Only g a b) (hB : B ≤ g) (hh : Has a B A xs) : Has b B A xs := fun j u hj => by
  obtain ⟨ad, e, hlt, hc⟩ := hh j u hj
  refine ⟨ad, e, hlt, (World.cell?_of_block (w := a) ?_).trans hc⟩
  rw [addr_block]
  have := block_lt hc
  rw [addr_block] at this
  exact h.block ad.block this (by omega)
theorem EyeHas.alloc (h : EyeHas a g X st) (o : Obj) : EyeHas (a.alloc o) g X st := by
  obtain ⟨p, bad, h1, h2⟩ := h
  exact ⟨p, bad, h1.alloc o, h2⟩
theorem EyeHas.far (h : EyeHas a g X st) {p : Addr} (hp : g ≠ p.block) (u : Value) : EyeHas (a.setCell p u) g X st := by
  obtain ⟨p', bad, h1, h2⟩ := h
  exact ⟨p', bad, h1.far hp u, h2⟩
theorem EyeHas.grown {row : Option Nat} (h : EyeHas a g X st) (hb : a.grownBy b row) (hg : some g ≠ row) : EyeHas b g X st := by
  obtain ⟨p', bad, h1, h2⟩ := h
  exact ⟨p', bad, h1.grown hb hg, h2⟩
theorem EyeHas.below {B : Nat} (h : EyeHas a g X st) (hb : Below B a b) (hg : g < B) : EyeHas b g X st := by
  obtain ⟨p', bad, h1, h2⟩ := h
  exact ⟨p', bad, h1.below hb hg, h2⟩
theorem EyeHas.bad (h : EyeHas a g X none) : a.cell? ⟨g, 2, none⟩ = some (.bool true) := by
  obtain ⟨p', bad, h1, _, h2⟩ := h
  rcases h2 with ⟨h2, _⟩ | ⟨_, rfl⟩
  · cases h2
  · exact h1.cell 2
theorem EyeHas.good {q : Int} (h : EyeHas a g X (some q)) : a.cell? ⟨g, 2, none⟩ = some (.bool false) ∧ a.cell? ⟨g, 1, none⟩ = some (.int .i64 q) := by
  obtain ⟨p', bad, h1, _, h2⟩ := h
  rcases h2 with ⟨h2, rfl⟩ | ⟨h2, _⟩
  · cases h2
    exact ⟨h1.cell 2, h1.cell 1⟩
  · cases h2
end

section
variable {α β : Type} {f : Tkr α} {st st1 st2 : Option Int} {x : α} {y : β}
theorem Eyed.pure (x : α) (st : Option Int) : Eyed (fun j => some (x, j)) st st x := by cases st <;> simp [Eyed]
theorem Eyed.bind {g : α → Tkr β} (h : Eyed f st st1 x) (k : Eyed (g x) st1 st2 y) : Eyed (fun i => (f i).bind fun a => g a.1 a.2) st st2 y := by
  cases st with
  | none =>
    simp only [Eyed] at h
    subst h
    exact k
  | some p =>
    simp only [Eyed] at h ⊢
    cases hf : f p with
    | none =>
      rw [hf] at h
      simp only at h
      subst h
      exact k
    | some v =>
      rw [hf] at h
      obtain ⟨rfl, rfl⟩ := h
      exact k
/-- What stands still to be read at a list's next thing. -/
def Rest (F : Tkr (List α)) (f : Tkr α) (st0 st : Option Int) (done : List α) (n : Nat) : Prop := match st0 with
  | none => st = none
  | some p => match st with
    | some q => F p = restOf f done n q
    | none => F p = none
theorem Rest.start {zs : List Int} {n : Nat} (h : Eyed (tkLen zs) st st1 n) : Rest (tkList zs f) f st st1 [] n := by
  cases st with
  | none => exact h
  | some p =>
    simp only [Eyed] at h
    cases hf : tkLen zs p with
    | none =>
      rw [hf] at h
      simp only at h
      subst h
      simp [Rest, tkList, hf]
    | some v =>
      rw [hf] at h
      obtain ⟨rfl, rfl⟩ := h
      exact list_rest hf
theorem Rest.step {F : Tkr (List α)} {q : Int} {done : List α} {n : Nat} (h : Rest F f st (some q) done (n + 1)) (k : Eyed f (some q) st1 x) : Rest F f st st1 (done ++ [x]) n := by
  cases st with
  | none => cases h
  | some p =>
    simp only [Rest] at h
    simp only [Eyed] at k
    cases hf : f q with
    | none =>
      rw [hf] at k
      simp only at k
      subst k
      exact h.trans (restOf_none hf)
    | some v =>
      rw [hf] at k
      obtain ⟨rfl, rfl⟩ := k
      exact h.trans (restOf_some hf)
theorem Rest.end_ {F : Tkr (List α)} {q : Int} {done : List α} (h : Rest F f st (some q) done 0) : Eyed F st (some q) done := by
  cases st with
  | none => cases h
  | some p =>
    have h1 : F p = some (done, q) := h.trans (restOf_zero f done q)
    simp only [Eyed, h1, and_self]
theorem Rest.bad {F : Tkr (List α)} {done : List α} {n : Nat} (h : Rest F f st none done n) : Eyed F st none done := by
  cases st with
  | none => rfl
  | some p =>
    have h1 : F p = none := h
    simp only [Eyed, h1]
end
theorem eyed_num_cases {zs : List Int} {p n : Int} {st1 : Option Int} (h : Eyed (tkNum zs) (some p) st1 n) : (tk zs p = none ∧ st1 = none) ∨ ∃ v, tk zs p = some v ∧ st1 = some ((v.2 : Nat) : Int) ∧ n = ((v.1 : Nat) : Int) := by
  cases hf : tk zs p with
  | none =>
    have e : tkNum zs p = none := by simp only [tkNum, hf]
    simp only [Eyed, e] at h
    exact Or.inl ⟨rfl, h⟩
  | some v =>
    have e : tkNum zs p = some ((v.1 : Int), (v.2 : Int)) := by simp only [tkNum, hf]
    simp only [Eyed, e] at h
    exact Or.inr ⟨v, rfl, h.1, h.2⟩
theorem eyed_len {zs : List Int} {st : Option Int} {q n : Int} (h : Eyed (tkNum zs) st (some q) n) (hn : n ≤ 256) : Eyed (tkLen zs) st (some q) n.toNat := by
  cases st with
  | none => cases h
  | some p =>
    rcases eyed_num_cases h with ⟨_, h2⟩ | ⟨v, h1, h2, rfl⟩
    · cases h2
    · have e : tkLen zs p = some (v.1, ((v.2 : Nat) : Int)) := by simp only [tkLen, h1, if_pos (show v.1 ≤ 256 by omega)]
      simp only [Eyed, e]
      exact ⟨h2, by simp⟩
theorem eyed_long {zs : List Int} {st : Option Int} {q n : Int} (h : Eyed (tkNum zs) st (some q) n) (hn : 256 < n) : Eyed (tkLen zs) st none 0 := by
  cases st with
  | none => rfl
  | some p =>
    rcases eyed_num_cases h with ⟨_, h2⟩ | ⟨v, h1, h2, rfl⟩
    · cases h2
    · have e : tkLen zs p = none := by simp only [tkLen, h1, if_neg (show ¬ v.1 ≤ 256 by omega)]
      simp only [Eyed, e]
theorem eyed_none {zs : List Int} {st : Option Int} {n : Int} (h : Eyed (tkNum zs) st none n) : Eyed (tkLen zs) st none 0 := by
  cases st with
  | none => rfl
  | some p =>
    rcases eyed_num_cases h with ⟨h1, _⟩ | ⟨v, h1, h2, rfl⟩
    · have e : tkLen zs p = none := by simp only [tkLen, h1]
      simp only [Eyed, e]
    · cases h2

/-- What a call of the Eye's for a list's length does. -/
def LenSeen (zs : List Int) (g : Nat) (X : Value) (st : Option Int) (w : World) (e : Ending) (w' : World) : Prop :=
  ∃ (n : Nat) (st' : Option Int), e = .returned (.int .i64 n) ∧ n ≤ 256 ∧ Eyed (tkLen zs) st st' n ∧ EyeHas w' g X st' ∧ Only g w w' ∧ w'.heap.size = w.heap.size
set_option maxHeartbeats 1000000 in
set_option maxRecDepth 100000 in
theorem eye_list (A : Option Addr) (cap : Nat) (zs : List Int) (B g : Nat) (st : Option Int) (hl : zs.length ≤ 9223372036854775806) (hz : ∀ z ∈ zs, 0 ≤ z ∧ z ≤ 255) (w : World) (he : EyeHas w g (.slice A zs.length cap) st) (hh : Has w B A (u8s zs)) :
    Calls Try.prog 73 #[.pointer (some ⟨g, 0, none⟩)] w (LenSeen zs g (.slice A zs.length cap) st w) := by
  have HN := Lib.hid (eye_number A cap zs B g st hl hz w he hh)
  clear he hh hz hl
  go_enter Try.func73, Try.ntmps73
  go_wp2_with fail
  refine HN.out.mono ?_
  rintro e w1 ⟨n, st1, rfl, hf, ⟨p, bad, hb, hp, hs⟩, ho, hsz, hn0, hn1⟩
  have ce2 : w1.cell? ⟨g, 2, none⟩ = some (.bool bad) := hb.cell 2
  have fr2 := hb.frozen 2
  have HB := Lib.hid hb
  have HO := Lib.hid ho
  clear hb ho HN
  rcases hs with ⟨rfl, rfl⟩ | ⟨rfl, rfl⟩
  · by_cases h : n ≤ 256
    · obtain ⟨m, rfl⟩ : ∃ m : Nat, n = m := ⟨n.toNat, by omega⟩
      have HF := Lib.hid (eyed_len hf h)
      have dd : decide ((m : Int) > 256) = false := by simp; omega
      clear hf
      go_wp2_with fail
      go_ret
      exact ⟨m, some p, rfl, by omega, by simpa using HF.out, ⟨p, false, HB.out.set_ 2 (.bool false), hp, Or.inl ⟨rfl, rfl⟩⟩, HO.out.set_ 2 _, by simpa using hsz⟩
    · have HF := Lib.hid (eyed_long hf (by omega))
      have dd : decide (n > 256) = true := by simp; omega
      clear hf
      go_wp2_with fail
      go_ret
      exact ⟨0, none, rfl, by omega, HF.out, ⟨p, true, HB.out.set_ 2 (.bool true), hp, Or.inr ⟨rfl, rfl⟩⟩, HO.out.set_ 2 _, by simpa using hsz⟩
  · have HF := Lib.hid (eyed_none hf)
    clear hf
    go_wp2_with fail
    go_ret
    exact ⟨0, none, rfl, by omega, HF.out, ⟨p, true, HB.out.set_ 2 (.bool true), hp, Or.inr ⟨rfl, rfl⟩⟩, HO.out.set_ 2 _, by simpa using hsz⟩

/-- A round of a list's loop: the Eye, the row that grows, the variable's block. -/
structure Eyg (T : TypeId) (s g : Nat) (X : Value) (w W : World) (b : Nat) (L : Value) (n : Nat) (xs : List Value) (cs : Array Value) (st : Option Int) : Prop where
  only : Only g w W
  eye : EyeHas W g X st
  row : W.ownsRow w.heap.size T s L n xs
  blk : Blk W b T cs
  hg : g < w.heap.size
  hb : w.heap.size ≤ b
  hL : L.ownBlock ≠ some b
section
variable {T : TypeId} {s g n b : Nat} {X : Value} {w W W' : World} {L : Value} {xs : List Value} {cs : Array Value} {st st' : Option Int}
theorem Eyg.new (ho : Only g w W) (he : EyeHas W g X st) (hr : W.ownsRow w.heap.size T s L n xs) (hg : g < w.heap.size) (cs : Array Value) : Eyg T s g X w (W.alloc (.cells cs T)) W.heap.size L n xs cs st :=
  ⟨ho.alloc _, he.alloc _, hr.alloc _, Blk.new _ _ _, hg, ho.size, fun h => by have := (hr.lt _ h).2; omega⟩
theorem Eyg.set_ (h : Eyg T s g X w W b L n xs cs st) (i : Nat) (v : Value) : Eyg T s g X w (W.setCell ⟨b, i, none⟩ v) b L n xs (cs.setIfInBounds i v) st :=
  ⟨⟨h.only.os, h.only.tape, h.only.output, by simpa using h.only.size, fun k hk hne => (Below.heap_setCell W _ v k (by have := h.hb; simp; omega)).trans (h.only.block k hk hne)⟩, h.eye.far (by have := h.hg; have := h.hb; simp; omega) v, own_far h.row (p := ⟨b, i, none⟩) h.hL v, h.blk.set_ i v, h.hg, h.hb, h.hL⟩
theorem Eyg.call (h : Eyg T s g X w W b L n xs cs st) (ho : Only g W W') (he : EyeHas W' g X st') : Eyg T s g X w W' b L n xs cs st' :=
  ⟨h.only.trans ho, he, ho.own h.row (own_blk_lt h.row h.hg), ho.blk h.blk (by have := h.hg; have := h.hb; omega), h.hg, h.hb, h.hL⟩
theorem Eyg.app (h : Eyg T s g X w W b L n xs cs st) {o : Obj} (hgr : (W.alloc o).grownBy W' L.ownBlock) : Only g w W' ∧ EyeHas W' g X st :=
  ⟨(h.only.alloc o).grown hgr (fun k hk => Or.inl (h.row.lt k hk).1), (h.eye.alloc o).grown hgr (fun he => own_blk_lt h.row h.hg he.symm)⟩
theorem Eyg.cell (h : Eyg T s g X w W b L n xs cs st) (i : Nat) : W.cell? ⟨b, i, none⟩ = cs[i]? := h.blk.cell i
theorem Eyg.frozen (h : Eyg T s g X w W b L n xs cs st) (i : Nat) : W.frozen? ⟨b, i, none⟩ = false := h.blk.frozen i
end
end Go.Proofs.Ytbebfgfpdcdcoaa
/- The contract of the document's own Eye for a request. -/
namespace Go.Proofs.Ytbebfgfpdcdcoaa
open Go.RowKit

theorem eyed_sgn {zs : List Int} {st st1 : Option Int} {n : Int} (h : Eyed (tkNum zs) st st1 n) : Eyed (tkSgn zs) st st1 (zagS n) := by
  cases st with
  | none => exact h
  | some p =>
    rcases eyed_num_cases h with ⟨h1, rfl⟩ | ⟨v, h1, rfl, rfl⟩
    · have e : tkSgn zs p = none := by simp only [tkSgn, h1]
      simp only [Eyed, e]
    · have e : tkSgn zs p = some (zagS (v.1 : Int), ((v.2 : Nat) : Int)) := by simp only [tkSgn, h1]
      simp only [Eyed, e, and_self]
theorem eyed_req {zs : List Int} {s0 s1 s2 s3 s4 s5 s6 : Option Int} {a0 a1 a2 a3 a4 a5 : Int} (h0 : Eyed (tkNum zs) s0 s1 a0) (h1 : Eyed (tkNum zs) s1 s2 a1) (h2 : Eyed (tkNum zs) s2 s3 a2) (h3 : Eyed (tkSgn zs) s3 s4 a3) (h4 : Eyed (tkSgn zs) s4 s5 a4) (h5 : Eyed (tkNum zs) s5 s6 a5) : Eyed (tkReq zs) s0 s6 ⟨a0, a1, a2, a3, a4, a5⟩ :=
  Eyed.bind (g := fun x0 j => (tkNum zs j).bind fun y1 => (tkNum zs y1.2).bind fun y2 => (tkSgn zs y2.2).bind fun y3 => (tkSgn zs y3.2).bind fun y4 => (tkNum zs y4.2).bind fun y5 => some ((⟨x0, y1.1, y2.1, y3.1, y4.1, y5.1⟩ : Rq), y5.2)) h0 (Eyed.bind (g := fun x1 j => (tkNum zs j).bind fun y2 => (tkSgn zs y2.2).bind fun y3 => (tkSgn zs y3.2).bind fun y4 => (tkNum zs y4.2).bind fun y5 => some ((⟨a0, x1, y2.1, y3.1, y4.1, y5.1⟩ : Rq), y5.2)) h1 (Eyed.bind (g := fun x2 j => (tkSgn zs j).bind fun y3 => (tkSgn zs y3.2).bind fun y4 => (tkNum zs y4.2).bind fun y5 => some ((⟨a0, a1, x2, y3.1, y4.1, y5.1⟩ : Rq), y5.2)) h2 (Eyed.bind (g := fun x3 j => (tkSgn zs j).bind fun y4 => (tkNum zs y4.2).bind fun y5 => some ((⟨a0, a1, a2, x3, y4.1, y5.1⟩ : Rq), y5.2)) h3 (Eyed.bind (g := fun x4 j => (tkNum zs j).bind fun y5 => some ((⟨a0, a1, a2, a3, x4, y5.1⟩ : Rq), y5.2)) h4 (Eyed.bind (g := fun x5 j => some ((⟨a0, a1, a2, a3, a4, x5⟩ : Rq), j)) h5 (Eyed.pure (⟨a0, a1, a2, a3, a4, a5⟩ : Rq) s6))))))
theorem Only.new_ {g : Nat} {w W : World} (h : Only g w W) {p : Addr} (hb : w.heap.size ≤ p.block) (v : Value) : Only g w (W.setCell p v) :=
  ⟨h.os, h.tape, h.output, by simpa using h.size, fun k hk hne => (Below.heap_setCell W p v k (by omega)).trans (h.block k hk hne)⟩
theorem only_six {g b : Nat} {w W : World} (h : Only g w W) (hb : w.heap.size ≤ b) (b0 b1 b2 b3 b4 b5 : Value) : Only g w (W.setCells b 0 [b0, b1, b2, b3, b4, b5]) :=
  (((((h.new_ (p := ⟨b, 0, none⟩) hb b0).new_ (p := ⟨b, 1, none⟩) hb b1).new_ (p := ⟨b, 2, none⟩) hb b2).new_ (p := ⟨b, 3, none⟩) hb b3).new_ (p := ⟨b, 4, none⟩) hb b4).new_ (p := ⟨b, 5, none⟩) hb b5
theorem eye_six {g b : Nat} {W : World} {X : Value} {st : Option Int} (h : EyeHas W g X st) (hb : g ≠ b) (b0 b1 b2 b3 b4 b5 : Value) : EyeHas (W.setCells b 0 [b0, b1, b2, b3, b4, b5]) g X st :=
  (((((h.far (p := ⟨b, 0, none⟩) hb b0).far (p := ⟨b, 1, none⟩) hb b1).far (p := ⟨b, 2, none⟩) hb b2).far (p := ⟨b, 3, none⟩) hb b3).far (p := ⟨b, 4, none⟩) hb b4).far (p := ⟨b, 5, none⟩) hb b5
/-- What a call of the Eye's for a request does. -/
def ReqSeen (zs : List Int) (g : Nat) (X : Value) (st : Option Int) (w : World) (e : Ending) (w' : World) : Prop :=
  ∃ (r : Rq) (st' : Option Int), e = .returned (.agg #[.int .i64 r.cl, .int .i64 r.tm, .int .i64 r.kd, .int .i64 r.ky, .int .i64 r.vl, .int .i64 r.sg]) ∧ Eyed (tkReq zs) st st' r ∧ EyeHas w' g X st' ∧ Only g w w'
set_option maxHeartbeats 2000000 in
set_option maxRecDepth 100000 in
theorem eye_req (A : Option Addr) (cap : Nat) (zs : List Int) (B g : Nat) (st : Option Int) (hl : zs.length ≤ 9223372036854775806) (hz : ∀ z ∈ zs, 0 ≤ z ∧ z ≤ 255) (w : World) (hB : B ≤ g) (he : EyeHas w g (.slice A zs.length cap) st) (hh : Has w B A (u8s zs)) :
    Calls Try.prog 74 #[.pointer (some ⟨g, 0, none⟩)] w (ReqSeen zs g (.slice A zs.length cap) st w) := by
  have hg := he.lt
  have HN := Lib.hid (fun w st he hh => eye_number A cap zs B g st hl hz w he hh)
  have HH := Lib.hid hh
  have he0 := (Eyg.new (T := 75) (s := 6) ((Only.refl g w).alloc (.cells #[.int .i64 0, .int .i64 0, .int .i64 0, .int .i64 0, .int .i64 0, .int .i64 0] 75)) (he.alloc _) (World.ownsRow_nil _ _ _ _) hg #[.int .i64 0, .int .i64 0, .int .i64 0, .int .i64 0, .int .i64 0, .int .i64 0])
  rw [World.size_alloc] at he0
  have HE0 := Lib.hid he0
  have HR0 := Lib.hid ((Blk.new w 75 #[.int .i64 0, .int .i64 0, .int .i64 0, .int .i64 0, .int .i64 0, .int .i64 0]).alloc (.cells #[.int .i64 0, .int .i64 0, .int .i64 0, .int .i64 0, .int .i64 0, .int .i64 0] 75))
  clear he hh hz hl he0
  go_enter Try.func74, Try.ntmps74
  go_wp2_with fail
  refine (HN.out _ st HE0.out.eye (HE0.out.only.hasB hB HH.out)).mono ?_
  rintro e w1 ⟨n0, s1, rfl, hf, he, ho, hsz, _, _⟩
  have HF0 := Lib.hid hf
  have hc0 := HE0.out.call ho he
  have hr0 := ho.blk HR0.out (by omega)
  have HC0 := Lib.hid hc0
  have ce0_0 : w1.cell? ⟨w.heap.size + 1, 0, none⟩ = some (.int .i64 0) := by simpa using hc0.cell 0
  have ce0_1 : w1.cell? ⟨w.heap.size + 1, 1, none⟩ = some (.int .i64 0) := by simpa using hc0.cell 1
  have ce0_2 : w1.cell? ⟨w.heap.size + 1, 2, none⟩ = some (.int .i64 0) := by simpa using hc0.cell 2
  have ce0_3 : w1.cell? ⟨w.heap.size + 1, 3, none⟩ = some (.int .i64 0) := by simpa using hc0.cell 3
  have ce0_4 : w1.cell? ⟨w.heap.size + 1, 4, none⟩ = some (.int .i64 0) := by simpa using hc0.cell 4
  have ce0_5 : w1.cell? ⟨w.heap.size + 1, 5, none⟩ = some (.int .i64 0) := by simpa using hc0.cell 5
  have fr0 : w1.frozen? ⟨w.heap.size + 1, 0, none⟩ = false := by simpa using hc0.frozen 0
  clear hf ho he hc0
  have HE1 := Lib.hid (HC0.out.set_ 0 (.int .i64 n0))
  have HR1 := Lib.hid (hr0.far (p := ⟨w.heap.size + 1, 0, none⟩) (by simp) (.int .i64 n0))
  clear hr0
  go_wp2_with fail
  refine (HN.out _ s1 HE1.out.eye (HE1.out.only.hasB hB HH.out)).mono ?_
  rintro e w2 ⟨n1, s2, rfl, hf, he, ho, hsz, _, _⟩
  have HF1 := Lib.hid hf
  have hc1 := HE1.out.call ho he
  have hr1 := ho.blk HR1.out (by omega)
  have HC1 := Lib.hid hc1
  have ce1_0 : w2.cell? ⟨w.heap.size + 1, 0, none⟩ = some (.int .i64 n0) := by simpa using hc1.cell 0
  have ce1_1 : w2.cell? ⟨w.heap.size + 1, 1, none⟩ = some (.int .i64 0) := by simpa using hc1.cell 1
  have ce1_2 : w2.cell? ⟨w.heap.size + 1, 2, none⟩ = some (.int .i64 0) := by simpa using hc1.cell 2
  have ce1_3 : w2.cell? ⟨w.heap.size + 1, 3, none⟩ = some (.int .i64 0) := by simpa using hc1.cell 3
  have ce1_4 : w2.cell? ⟨w.heap.size + 1, 4, none⟩ = some (.int .i64 0) := by simpa using hc1.cell 4
  have ce1_5 : w2.cell? ⟨w.heap.size + 1, 5, none⟩ = some (.int .i64 0) := by simpa using hc1.cell 5
  have fr1 : w2.frozen? ⟨w.heap.size + 1, 1, none⟩ = false := by simpa using hc1.frozen 1
  clear hf ho he hc1
  have HE2 := Lib.hid (HC1.out.set_ 1 (.int .i64 n1))
  have HR2 := Lib.hid (hr1.far (p := ⟨w.heap.size + 1, 1, none⟩) (by simp) (.int .i64 n1))
  clear hr1
  go_wp2_with fail
  refine (HN.out _ s2 HE2.out.eye (HE2.out.only.hasB hB HH.out)).mono ?_
  rintro e w3 ⟨n2, s3, rfl, hf, he, ho, hsz, _, _⟩
  have HF2 := Lib.hid hf
  have hc2 := HE2.out.call ho he
  have hr2 := ho.blk HR2.out (by omega)
  have HC2 := Lib.hid hc2
  have ce2_0 : w3.cell? ⟨w.heap.size + 1, 0, none⟩ = some (.int .i64 n0) := by simpa using hc2.cell 0
  have ce2_1 : w3.cell? ⟨w.heap.size + 1, 1, none⟩ = some (.int .i64 n1) := by simpa using hc2.cell 1
  have ce2_2 : w3.cell? ⟨w.heap.size + 1, 2, none⟩ = some (.int .i64 0) := by simpa using hc2.cell 2
  have ce2_3 : w3.cell? ⟨w.heap.size + 1, 3, none⟩ = some (.int .i64 0) := by simpa using hc2.cell 3
  have ce2_4 : w3.cell? ⟨w.heap.size + 1, 4, none⟩ = some (.int .i64 0) := by simpa using hc2.cell 4
  have ce2_5 : w3.cell? ⟨w.heap.size + 1, 5, none⟩ = some (.int .i64 0) := by simpa using hc2.cell 5
  have fr2 : w3.frozen? ⟨w.heap.size + 1, 2, none⟩ = false := by simpa using hc2.frozen 2
  clear hf ho he hc2
  have HE3 := Lib.hid (HC2.out.set_ 2 (.int .i64 n2))
  have HR3 := Lib.hid (hr2.far (p := ⟨w.heap.size + 1, 2, none⟩) (by simp) (.int .i64 n2))
  clear hr2
  go_wp2_with fail
  refine (HN.out _ s3 HE3.out.eye (HE3.out.only.hasB hB HH.out)).mono ?_
  rintro e w4 ⟨n3, s4, rfl, hf, he, ho, hsz, _, _⟩
  have HF3 := Lib.hid hf
  have hc3 := HE3.out.call ho he
  have hr3 := ho.blk HR3.out (by omega)
  have HC3 := Lib.hid hc3
  have ce3_0 : w4.cell? ⟨w.heap.size + 1, 0, none⟩ = some (.int .i64 n0) := by simpa using hc3.cell 0
  have ce3_1 : w4.cell? ⟨w.heap.size + 1, 1, none⟩ = some (.int .i64 n1) := by simpa using hc3.cell 1
  have ce3_2 : w4.cell? ⟨w.heap.size + 1, 2, none⟩ = some (.int .i64 n2) := by simpa using hc3.cell 2
  have ce3_3 : w4.cell? ⟨w.heap.size + 1, 3, none⟩ = some (.int .i64 0) := by simpa using hc3.cell 3
  have ce3_4 : w4.cell? ⟨w.heap.size + 1, 4, none⟩ = some (.int .i64 0) := by simpa using hc3.cell 4
  have ce3_5 : w4.cell? ⟨w.heap.size + 1, 5, none⟩ = some (.int .i64 0) := by simpa using hc3.cell 5
  have fr3 : w4.frozen? ⟨w.heap.size + 1, 3, none⟩ = false := by simpa using hc3.frozen 3
  have HZ3 := Lib.hid (fun w => refzag_any n3 w)
  clear hf ho he hc3
  go_wp2_with fail
  refine (HZ3.out _).mono ?_
  rintro e wz ⟨rfl, rfl⟩
  have HE4 := Lib.hid (HC3.out.set_ 3 (.int .i64 (zagS n3)))
  have HR4 := Lib.hid (hr3.far (p := ⟨w.heap.size + 1, 3, none⟩) (by simp) (.int .i64 (zagS n3)))
  clear hr3
  go_wp2_with fail
  refine (HN.out _ s4 HE4.out.eye (HE4.out.only.hasB hB HH.out)).mono ?_
  rintro e w5 ⟨n4, s5, rfl, hf, he, ho, hsz, _, _⟩
  have HF4 := Lib.hid hf
  have hc4 := HE4.out.call ho he
  have hr4 := ho.blk HR4.out (by omega)
  have HC4 := Lib.hid hc4
  have ce4_0 : w5.cell? ⟨w.heap.size + 1, 0, none⟩ = some (.int .i64 n0) := by simpa using hc4.cell 0
  have ce4_1 : w5.cell? ⟨w.heap.size + 1, 1, none⟩ = some (.int .i64 n1) := by simpa using hc4.cell 1
  have ce4_2 : w5.cell? ⟨w.heap.size + 1, 2, none⟩ = some (.int .i64 n2) := by simpa using hc4.cell 2
  have ce4_3 : w5.cell? ⟨w.heap.size + 1, 3, none⟩ = some (.int .i64 (zagS n3)) := by simpa using hc4.cell 3
  have ce4_4 : w5.cell? ⟨w.heap.size + 1, 4, none⟩ = some (.int .i64 0) := by simpa using hc4.cell 4
  have ce4_5 : w5.cell? ⟨w.heap.size + 1, 5, none⟩ = some (.int .i64 0) := by simpa using hc4.cell 5
  have fr4 : w5.frozen? ⟨w.heap.size + 1, 4, none⟩ = false := by simpa using hc4.frozen 4
  have HZ4 := Lib.hid (fun w => refzag_any n4 w)
  clear hf ho he hc4
  go_wp2_with fail
  refine (HZ4.out _).mono ?_
  rintro e wz ⟨rfl, rfl⟩
  have HE5 := Lib.hid (HC4.out.set_ 4 (.int .i64 (zagS n4)))
  have HR5 := Lib.hid (hr4.far (p := ⟨w.heap.size + 1, 4, none⟩) (by simp) (.int .i64 (zagS n4)))
  clear hr4
  go_wp2_with fail
  refine (HN.out _ s5 HE5.out.eye (HE5.out.only.hasB hB HH.out)).mono ?_
  rintro e w6 ⟨n5, s6, rfl, hf, he, ho, hsz, _, _⟩
  have HF5 := Lib.hid hf
  have hc5 := HE5.out.call ho he
  have hr5 := ho.blk HR5.out (by omega)
  have HC5 := Lib.hid hc5
  have ce5_0 : w6.cell? ⟨w.heap.size + 1, 0, none⟩ = some (.int .i64 n0) := by simpa using hc5.cell 0
  have ce5_1 : w6.cell? ⟨w.heap.size + 1, 1, none⟩ = some (.int .i64 n1) := by simpa using hc5.cell 1
  have ce5_2 : w6.cell? ⟨w.heap.size + 1, 2, none⟩ = some (.int .i64 n2) := by simpa using hc5.cell 2
  have ce5_3 : w6.cell? ⟨w.heap.size + 1, 3, none⟩ = some (.int .i64 (zagS n3)) := by simpa using hc5.cell 3
  have ce5_4 : w6.cell? ⟨w.heap.size + 1, 4, none⟩ = some (.int .i64 (zagS n4)) := by simpa using hc5.cell 4
  have ce5_5 : w6.cell? ⟨w.heap.size + 1, 5, none⟩ = some (.int .i64 0) := by simpa using hc5.cell 5
  have fr5 : w6.frozen? ⟨w.heap.size + 1, 5, none⟩ = false := by simpa using hc5.frozen 5
  clear hf ho he hc5
  have HE6 := Lib.hid (HC5.out.set_ 5 (.int .i64 n5))
  have HR6 := Lib.hid (hr5.far (p := ⟨w.heap.size + 1, 5, none⟩) (by simp) (.int .i64 n5))
  clear hr5
  have he6 := HE6.out
  have hr6 := HR6.out
  obtain ⟨w8, hw8⟩ : ∃ w8, (w6.setCell ⟨w.heap.size + 1, 5, none⟩ (.int .i64 n5)).setCells w.heap.size 0 [.int .i64 n0, .int .i64 n1, .int .i64 n2, .int .i64 (zagS n3), .int .i64 (zagS n4), .int .i64 n5] = w8 := ⟨_, rfl⟩
  have hblk8 : Blk w8 w.heap.size 75 #[.int .i64 n0, .int .i64 n1, .int .i64 n2, .int .i64 (zagS n3), .int .i64 (zagS n4), .int .i64 n5] := by rw [← hw8]; exact blk_six hr6 _ _ _ _ _ _
  have HR : Hid (ReqSeen zs g (.slice A zs.length cap) st w (.returned (.agg #[.int .i64 n0, .int .i64 n1, .int .i64 n2, .int .i64 (zagS n3), .int .i64 (zagS n4), .int .i64 n5])) w8) := ⟨⟨n0, n1, n2, zagS n3, zagS n4, n5⟩, s6, rfl, eyed_req HF0.out HF1.out HF2.out (eyed_sgn HF3.out) (eyed_sgn HF4.out) HF5.out, by rw [← hw8]; exact eye_six he6.eye (by omega) _ _ _ _ _ _, by rw [← hw8]; exact only_six he6.only (Nat.le_refl _) _ _ _ _ _ _⟩
  have HTh := Lib.hid (there_six hr6)
  have HW8 := Lib.hid hw8
  have de0 : w8.cell? ⟨w.heap.size, 0, none⟩ = some (.int .i64 n0) := hblk8.cell 0
  have de1 : w8.cell? ⟨w.heap.size, 1, none⟩ = some (.int .i64 n1) := hblk8.cell 1
  have de2 : w8.cell? ⟨w.heap.size, 2, none⟩ = some (.int .i64 n2) := hblk8.cell 2
  have de3 : w8.cell? ⟨w.heap.size, 3, none⟩ = some (.int .i64 (zagS n3)) := hblk8.cell 3
  have de4 : w8.cell? ⟨w.heap.size, 4, none⟩ = some (.int .i64 (zagS n4)) := hblk8.cell 4
  have de5 : w8.cell? ⟨w.heap.size, 5, none⟩ = some (.int .i64 n5) := hblk8.cell 5
  clear hw8 he6 hr6 hblk8
  go_wp2_with (refine wpList_store_mid rfl 75 (.tmp 2) (.tmp 28) rfl w.heap.size 0 #[.int .i64 n0, .int .i64 n1, .int .i64 n2, .int .i64 (zagS n3), .int .i64 (zagS n4), .int .i64 n5] rfl rfl HTh.out req_size (one_six _ _ _ _ _ _) ?_; rw [HW8.out])
  exact bodyPost_ret (v := .agg #[.int .i64 n0, .int .i64 n1, .int .i64 n2, .int .i64 (zagS n3), .int .i64 (zagS n4), .int .i64 n5]) (by simp [results, Try.results74, go_sem, de0, de1, de2, de3, de4, de5]) rfl HR.out
end Go.Proofs.Ytbebfgfpdcdcoaa
/- The contracts of the document's own Eye for votes and for batches. -/
namespace Go.Proofs.Ytbebfgfpdcdcoaa
open Go.RowKit

/-- What holds at the head of a list's loop. -/
def SeenRel {α : Type} (F : Tkr (List α)) (f : Tkr α) (own : World → Nat → Value → List α → Prop) (g : Nat) (X : Value) (st0 : Option Int) (w : World) (v x : Value) (wr : World) : Prop :=
  ∃ (n : Nat) (done : List α) (st : Option Int), x = .int .i64 n ∧ done.length + n ≤ 256 ∧ Only g w wr ∧ EyeHas wr g X st ∧ own wr w.heap.size v done ∧ Rest F f st0 st done n
/-- What a call of the Eye's for a list does. -/
def ListSeen {α : Type} (F : Tkr (List α)) (own : World → Nat → Value → List α → Prop) (g : Nat) (X : Value) (st : Option Int) (w : World) (e : Ending) (w' : World) : Prop :=
  ∃ (l : List α) (v : Value) (st' : Option Int), e = .returned v ∧ l.length ≤ 256 ∧ Eyed F st st' l ∧ own w' w.heap.size v l ∧ EyeHas w' g X st' ∧ Only g w w'
def OwnVotes (w : World) (b : Nat) (v : Value) (l : List Vt) : Prop := w.ownsRow b 78 2 v l.length (voteCells l)
def OwnReqs (w : World) (b : Nat) (v : Value) (l : List Rq) : Prop := w.ownsRow b 75 6 v l.length (reqCells l)
theorem eyed_vote {zs : List Int} {s0 s1 s2 : Option Int} {a0 a1 : Int} (h0 : Eyed (tkNum zs) s0 s1 a0) (h1 : Eyed (tkNum zs) s1 s2 a1) : Eyed (tkVote zs) s0 s2 ⟨a0, a1⟩ :=
  Eyed.bind (g := fun x0 j => (tkNum zs j).bind fun y1 => some ((⟨x0, y1.1⟩ : Vt), y1.2)) h0 (Eyed.bind (g := fun x1 j => some ((⟨a0, x1⟩ : Vt), j)) h1 (Eyed.pure (⟨a0, a1⟩ : Vt) s2))

set_option maxHeartbeats 2000000 in
set_option maxRecDepth 100000 in
theorem eye_votes (A : Option Addr) (cap : Nat) (zs : List Int) (B g : Nat) (st : Option Int) (hl : zs.length ≤ 9223372036854775806) (hz : ∀ z ∈ zs, 0 ≤ z ∧ z ≤ 255) (w : World) (hB : B ≤ g) (he : EyeHas w g (.slice A zs.length cap) st) (hh : Has w B A (u8s zs)) :
    Calls Try.prog 45 #[.pointer (some ⟨g, 0, none⟩)] w (ListSeen (tkVotes zs) OwnVotes g (.slice A zs.length cap) st w) := by
  have hg := he.lt
  obtain ⟨i0, hinf, hy0, hy1, hy2⟩ := info_parts Try.info78
  have HN := Lib.hid (fun w st he hh => eye_number A cap zs B g st hl hz w he hh)
  have HH := Lib.hid hh
  have HLn := Lib.hid (eye_list A cap zs B g st hl hz w he hh)
  clear he hh hz hl
  go_enter Try.func45, Try.ntmps45
  go_wp2_with fail
  refine HLn.out.mono ?_
  rintro e w1 ⟨n, st1, rfl, hn, hf, he, ho, hsz⟩
  have HR0 : Hid (SeenRel (tkVotes zs) (tkVote zs) OwnVotes g (.slice A zs.length cap) st w (.slice none 0 0) (.int .i64 n) w1) := ⟨n, [], st1, rfl, by simpa using hn, ho, he, World.ownsRow_nil _ _ _ _, Rest.start hf⟩
  clear hf he ho
  go_wp2_with fail
  go_loopw [3, 4] (fun v x wr => SeenRel (tkVotes zs) (tkVote zs) OwnVotes g (.slice A zs.length cap) st w v x wr) (fun _ x _ => (intOf x).toNat)
  case atStart => exact HR0.out
  case round =>
    obtain ⟨n, done, st1, rfl, hn, ho, he, hown, hrest⟩ := hrel
    have hbs := ho.size
    cases st1 with
    | none =>
      have ce := he.bad
      obtain ⟨A2, c2, rfl, _, _⟩ := own_slice hown
      have HE : Hid (ListSeen (tkVotes zs) OwnVotes g (.slice A zs.length cap) st w (.returned (.slice A2 done.length c2)) wr) := ⟨done, _, none, rfl, by omega, Rest.bad hrest, hown, he, ho⟩
      clear he ho hown hrest
      by_cases hn0 : n = 0
      · subst hn0
        go_wp2_with fail
        go_ret
        exact HE.out
      · have hpos : (0 : Int) < (n : Int) := by omega
        go_wp2_with fail
        go_ret
        exact HE.out
    | some q =>
      have ce := he.good.1
      by_cases hn0 : n = 0
      · subst hn0
        obtain ⟨A2, c2, rfl, _, _⟩ := own_slice hown
        have HE : Hid (ListSeen (tkVotes zs) OwnVotes g (.slice A zs.length cap) st w (.returned (.slice A2 done.length c2)) wr) := ⟨done, _, some q, rfl, by omega, Rest.end_ hrest, hown, he, ho⟩
        clear he ho hown hrest
        go_wp2_with fail
        go_ret
        exact HE.out
      · obtain ⟨m, hm⟩ : ∃ m, n = m + 1 := ⟨n - 1, by omega⟩
        have hpos : (0 : Int) < (n : Int) := by omega
        have hx : (n : Int) - 1 = (m : Int) := by omega
        have hmn : done.length + 1 + m ≤ 256 := by omega
        have hmm : m < n := by omega
        rw [hm] at hrest
        have HRe := Lib.hid hrest
        have HM := Lib.hid hmn
        clear hrest hm
        have hE0 := Eyg.new (T := 78) (s := 2) ho he hown hg #[.int .i64 0, .int .i64 0]
        have HE0 := Lib.hid hE0
        clear ho he hown hE0
        go_wp2_with fail
        refine (HN.out _ _ HE0.out.eye (HE0.out.only.hasB hB HH.out)).mono ?_
        rintro e w2 ⟨n0, s1, rfl, hf, he, ho, -, _, _⟩
        have HF0 := Lib.hid hf
        have hc0 := HE0.out.call ho he
        have fr0 := hc0.frozen 0
        have ce0 : w2.cell? ⟨wr.heap.size, 0, none⟩ = some (.int .i64 0) := hc0.cell 0
        have HE1 := Lib.hid (hc0.set_ 0 (.int .i64 n0))
        clear hf he ho hc0
        go_wp2_with fail
        refine (HN.out _ _ HE1.out.eye (HE1.out.only.hasB hB HH.out)).mono ?_
        rintro e w3 ⟨n1, s2, rfl, hf, he, ho, -, _, _⟩
        have HF1 := Lib.hid hf
        have hc1 := HE1.out.call ho he
        have fr1 := hc1.frozen 1
        have ce10 : w3.cell? ⟨wr.heap.size, 0, none⟩ = some (.int .i64 n0) := hc1.cell 0
        have ce11 : w3.cell? ⟨wr.heap.size, 1, none⟩ = some (.int .i64 0) := hc1.cell 1
        have HE2 := Lib.hid (hc1.set_ 1 (.int .i64 n1))
        have hs3 := hc1.only.size
        clear hf he ho hc1
        go_wp2_with (at_builtin; refine wpList_append_own _ rfl (.tmp 26) (.tmp 28) 23 rfl w.heap.size 78 i0 _ 2 16 Try.underlying23 hinf hy0 hy1 hy2 rfl (by decide) _ _ _ rfl (HE2.out.row.alloc _) ⟨w3.heap.size, 0, none⟩ 1 1 [.int .i64 n0, .int .i64 n1] rfl rfl ?c1 ?c2 ?c3 ?c4 ?c5 ?_)
        case c1 => exact World.news_of_block (cs := #[.int .i64 n0, .int .i64 n1]) (by simpa using heap_alloc_new (w3.setCell ⟨wr.heap.size, 1, none⟩ (.int .i64 n1)) (.cells #[.int .i64 n0, .int .i64 n1] 78))
        case c2 => intro u hu; simp at hu; rcases hu with rfl | rfl <;> rfl
        case c3 => unfold maxLen; omega
        case c4 => omega
        case c5 => simp; omega
        intro L2 w4 ho4 hg4 _
        have HNx : Hid (SeenRel (tkVotes zs) (tkVote zs) OwnVotes g (.slice A zs.length cap) st w L2 (.int .i64 m) w4) := ⟨m, done ++ [⟨n0, n1⟩], s2, rfl, by have := HM.out; simp; omega, (HE2.out.app hg4).1, (HE2.out.app hg4).2, show OwnVotes _ _ _ (done ++ [⟨n0, n1⟩]) from votes_more (v := ⟨n0, n1⟩) ho4, Rest.step HRe.out (eyed_vote HF0.out HF1.out)⟩
        clear ce ce0 ce10 ce11 fr0 fr1
        clear ho4 hg4
        go_wp2_with fail
        go_roundw
        case rel => exact HNx.out
        case measure => simp [intOf]; omega

set_option maxHeartbeats 2000000 in
set_option maxRecDepth 100000 in
theorem eye_batch (A : Option Addr) (cap : Nat) (zs : List Int) (B g : Nat) (st : Option Int) (hl : zs.length ≤ 9223372036854775806) (hz : ∀ z ∈ zs, 0 ≤ z ∧ z ≤ 255) (w : World) (hB : B ≤ g) (he : EyeHas w g (.slice A zs.length cap) st) (hh : Has w B A (u8s zs)) :
    Calls Try.prog 44 #[.pointer (some ⟨g, 0, none⟩)] w (ListSeen (tkBatch zs) OwnReqs g (.slice A zs.length cap) st w) := by
  have hg := he.lt
  obtain ⟨i0, hinf, hy0, hy1, hy2⟩ := info_parts Try.info75
  have HN := Lib.hid (fun w st he hh => eye_req A cap zs B g st hl hz w hB he hh)
  have HH := Lib.hid hh
  have HLn := Lib.hid (eye_list A cap zs B g st hl hz w he hh)
  clear he hh hz hl
  go_enter Try.func44, Try.ntmps44
  go_wp2_with fail
  refine HLn.out.mono ?_
  rintro e w1 ⟨n, st1, rfl, hn, hf, he, ho, hsz⟩
  have HR0 : Hid (SeenRel (tkBatch zs) (tkReq zs) OwnReqs g (.slice A zs.length cap) st w (.slice none 0 0) (.int .i64 n) w1) := ⟨n, [], st1, rfl, by simpa using hn, ho, he, World.ownsRow_nil _ _ _ _, Rest.start hf⟩
  clear hf he ho
  go_wp2_with fail
  go_loopw [3, 4] (fun v x wr => SeenRel (tkBatch zs) (tkReq zs) OwnReqs g (.slice A zs.length cap) st w v x wr) (fun _ x _ => (intOf x).toNat)
  case atStart => exact HR0.out
  case round =>
    obtain ⟨n, done, st1, rfl, hn, ho, he, hown, hrest⟩ := hrel
    have hbs := ho.size
    cases st1 with
    | none =>
      have ce := he.bad
      obtain ⟨A2, c2, rfl, _, _⟩ := own_slice hown
      have HE : Hid (ListSeen (tkBatch zs) OwnReqs g (.slice A zs.length cap) st w (.returned (.slice A2 done.length c2)) wr) := ⟨done, _, none, rfl, by omega, Rest.bad hrest, hown, he, ho⟩
      clear he ho hown hrest
      by_cases hn0 : n = 0
      · subst hn0
        go_wp2_with fail
        go_ret
        exact HE.out
      · have hpos : (0 : Int) < (n : Int) := by omega
        go_wp2_with fail
        go_ret
        exact HE.out
    | some q =>
      have ce := he.good.1
      by_cases hn0 : n = 0
      · subst hn0
        obtain ⟨A2, c2, rfl, _, _⟩ := own_slice hown
        have HE : Hid (ListSeen (tkBatch zs) OwnReqs g (.slice A zs.length cap) st w (.returned (.slice A2 done.length c2)) wr) := ⟨done, _, some q, rfl, by omega, Rest.end_ hrest, hown, he, ho⟩
        clear he ho hown hrest
        go_wp2_with fail
        go_ret
        exact HE.out
      · obtain ⟨m, hm⟩ : ∃ m, n = m + 1 := ⟨n - 1, by omega⟩
        have hpos : (0 : Int) < (n : Int) := by omega
        have hx : (n : Int) - 1 = (m : Int) := by omega
        have hmn : done.length + 1 + m ≤ 256 := by omega
        have hmm : m < n := by omega
        rw [hm] at hrest
        have HRe := Lib.hid hrest
        have HM := Lib.hid hmn
        clear hrest hm
        have HE := Lib.hid he
        have HO := Lib.hid ho
        have HOw := Lib.hid hown
        clear ho he hown
        go_wp2_with fail
        refine (HN.out _ _ HE.out (HO.out.hasB hB HH.out)).mono ?_
        rintro e w2 ⟨r, s1, rfl, hf, he, ho2⟩
        have HF0 := Lib.hid hf
        have HE2 := Lib.hid he
        have HO2 := Lib.hid (HO.out.trans ho2)
        have HOw2 := Lib.hid (ho2.own HOw.out (own_blk_lt HOw.out hg))
        have hs2 := (HO.out.trans ho2).size
        clear hf he ho2
        go_wp2_with (at_builtin; refine wpList_append_own _ rfl (.tmp 18) (.tmp 21) 22 rfl w.heap.size 75 i0 _ 6 48 Try.underlying22 hinf hy0 hy1 hy2 rfl (by decide) _ _ _ rfl (HOw2.out.alloc _) ⟨w2.heap.size, 0, none⟩ 1 1 [.int .i64 r.cl, .int .i64 r.tm, .int .i64 r.kd, .int .i64 r.ky, .int .i64 r.vl, .int .i64 r.sg] rfl rfl ?c1 ?c2 ?c3 ?c4 ?c5 ?_)
        case c1 => exact World.news_of_block (cs := #[.int .i64 r.cl, .int .i64 r.tm, .int .i64 r.kd, .int .i64 r.ky, .int .i64 r.vl, .int .i64 r.sg]) (heap_alloc_new w2 (.cells #[.int .i64 r.cl, .int .i64 r.tm, .int .i64 r.kd, .int .i64 r.ky, .int .i64 r.vl, .int .i64 r.sg] 75))
        case c2 => intro u hu; simp at hu; rcases hu with rfl | rfl | rfl | rfl | rfl | rfl <;> rfl
        case c3 => unfold maxLen; omega
        case c4 => omega
        case c5 => simp; omega
        intro L2 w4 ho4 hg4 _
        have HNx : Hid (SeenRel (tkBatch zs) (tkReq zs) OwnReqs g (.slice A zs.length cap) st w L2 (.int .i64 m) w4) := ⟨m, done ++ [r], s1, rfl, by have := HM.out; simp; omega, (HO2.out.alloc _).grown hg4 (fun k hk => Or.inl (HOw2.out.lt k hk).1), (HE2.out.alloc _).grown hg4 (fun he => own_blk_lt HOw2.out hg he.symm), show OwnReqs _ _ _ (done ++ [r]) from batch_more (v := r) ho4, Rest.step HRe.out HF0.out⟩
        clear ce
        clear ho4 hg4
        go_wp2_with fail
        go_roundw
        case rel => exact HNx.out
        case measure => simp [intOf]; omega

end Go.Proofs.Ytbebfgfpdcdcoaa
