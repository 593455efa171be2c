/- The contracts of the document's own Eye: a list's length, a request, votes. -/
import Derived.Test.YtkkaedcgpbjbmaaEye
namespace Go.Proofs.Ytkkaedcgpbjbmaa
open Go.RowKit

section
variable {g : Nat} {a b : World} {st : Option Int} {X : Value}
theorem Only.hasB {A : Option Addr} {xs : List Value} {B : Nat} (h : Only g a b) (hB : B ≤ g) (hh : Has a B A xs) : Has b B A xs := fun j u hj => by
  obtain ⟨ad, e, hlt, hc⟩ := hh j u hj
  refine ⟨ad, e, hlt, (World.cell?_of_block (w := a) ?_).trans hc⟩
  rw [addr_block]
  have := block_lt hc
  rw [addr_block] at this
  exact h.block ad.block this (by omega)
theorem EyeHas.alloc (h : EyeHas a g X st) (o : Obj) : EyeHas (a.alloc o) g X st := by
  obtain ⟨p, bad, h1, h2⟩ := h
  exact ⟨p, bad, h1.alloc o, h2⟩
theorem EyeHas.far (h : EyeHas a g X st) {p : Addr} (hp : g ≠ p.block) (u : Value) : EyeHas (a.setCell p u) g X st := by
  obtain ⟨p', bad, h1, h2⟩ := h
  exact ⟨p', bad, h1.far hp u, h2⟩
theorem EyeHas.grown {row : Option Nat} (h : EyeHas a g X st) (hb : a.grownBy b row) (hg : some g ≠ row) : EyeHas b g X st := by
  obtain ⟨p', bad, h1, h2⟩ := h
  exact ⟨p', bad, h1.grown hb hg, h2⟩
theorem EyeHas.below {B : Nat} (h : EyeHas a g X st) (hb : Below B a b) (hg : g < B) : EyeHas b g X st := by
  obtain ⟨p', bad, h1, h2⟩ := h
  exact ⟨p', bad, h1.below hb hg, h2⟩
theorem EyeHas.bad (h : EyeHas a g X none) : a.cell? ⟨g, 2, none⟩ = some (.bool true) := by
  obtain ⟨p', bad, h1, _, h2⟩ := h
  rcases h2 with ⟨h2, _⟩ | ⟨_, rfl⟩
  · cases h2
  · exact h1.cell 2
theorem EyeHas.good {q : Int} (h : EyeHas a g X (some q)) : a.cell? ⟨g, 2, none⟩ = some (.bool false) ∧ a.cell? ⟨g, 1, none⟩ = some (.int .i64 q) := by
  obtain ⟨p', bad, h1, _, h2⟩ := h
  rcases h2 with ⟨h2, rfl⟩ | ⟨h2, _⟩
  · cases h2
    exact ⟨h1.cell 2, h1.cell 1⟩
  · cases h2
end

section
variable {α β : Type} {f : Tkr α} {st st1 st2 : Option Int} {x : α} {y : β}
theorem Eyed.pure (x : α) (st : Option Int) : Eyed (fun j => some (x, j)) st st x := by cases st <;> simp [Eyed]
theorem Eyed.bind {g : α → Tkr β} (h : Eyed f st st1 x) (k : Eyed (g x) st1 st2 y) : Eyed (fun i => (f i).bind fun a => g a.1 a.2) st st2 y := by
  cases st with
  | none =>
    simp only [Eyed] at h
    subst h
    exact k
  | some p =>
    simp only [Eyed] at h ⊢
    cases hf : f p with
    | none =>
      rw [hf] at h
      simp only at h
      subst h
      exact k
    | some v =>
      rw [hf] at h
      obtain ⟨rfl, rfl⟩ := h
      exact k
/-- What stands still to be read at a list's next thing. -/
def Rest (F : Tkr (List α)) (f : Tkr α) (st0 st : Option Int) (done : List α) (n : Nat) : Prop := match st0 with
  | none => st = none
  | some p => match st with
    | some q => F p = restOf f done n q
    | none => F p = none
theorem Rest.start {zs : List Int} {n : Nat} (h : Eyed (tkLen zs) st st1 n) : Rest (tkList zs f) f st st1 [] n := by
  cases st with
  | none => exact h
  | some p =>
    simp only [Eyed] at h
    cases hf : tkLen zs p with
    | none =>
      rw [hf] at h
      simp only at h
      subst h
      simp [Rest, tkList, hf]
    | some v =>
      rw [hf] at h
      obtain ⟨rfl, rfl⟩ := h
      exact list_rest hf
theorem Rest.step {F : Tkr (List α)} {q : Int} {done : List α} {n : Nat} (h : Rest F f st (some q) done (n + 1)) (k : Eyed f (some q) st1 x) : Rest F f st st1 (done ++ [x]) n := by
  cases st with
  | none => cases h
  | some p =>
    simp only [Rest] at h
    simp only [Eyed] at k
    cases hf : f q with
    | none =>
      rw [hf] at k
      simp only at k
      subst k
      exact h.trans (restOf_none hf)
    | some v =>
      rw [hf] at k
      obtain ⟨rfl, rfl⟩ := k
      exact h.trans (restOf_some hf)
theorem Rest.end_ {F : Tkr (List α)} {q : Int} {done : List α} (h : Rest F f st (some q) done 0) : Eyed F st (some q) done := by
  cases st with
  | none => cases h
  | some p =>
    have h1 : F p = some (done, q) := h.trans (restOf_zero f done q)
    simp only [Eyed, h1, and_self]
theorem Rest.bad {F : Tkr (List α)} {done : List α} {n : Nat} (h : Rest F f st none done n) : Eyed F st none done := by
  cases st with
  | none => rfl
  | some p =>
    have h1 : F p = none := h
    simp only [Eyed, h1]
end
theorem eyed_num_cases {zs : List Int} {p n : Int} {st1 : Option Int} (h : Eyed (tkNum zs) (some p) st1 n) : (tk zs p = none ∧ st1 = none) ∨ ∃ v, tk zs p = some v ∧ st1 = some ((v.2 : Nat) : Int) ∧ n = ((v.1 : Nat) : Int) := by
  cases hf : tk zs p with
  | none =>
    have e : tkNum zs p = none := by simp only [tkNum, hf]
    simp only [Eyed, e] at h
    exact Or.inl ⟨rfl, h⟩
  | some v =>
    have e : tkNum zs p = some ((v.1 : Int), (v.2 : Int)) := by simp only [tkNum, hf]
    simp only [Eyed, e] at h
    exact Or.inr ⟨v, rfl, h.1, h.2⟩
theorem eyed_len {zs : List Int} {st : Option Int} {q n : Int} (h : Eyed (tkNum zs) st (some q) n) (hn : n ≤ 256) : Eyed (tkLen zs) st (some q) n.toNat := by
  cases st with
  | none => cases h
  | some p =>
    rcases eyed_num_cases h with ⟨_, h2⟩ | ⟨v, h1, h2, rfl⟩
    · cases h2
    · have e : tkLen zs p = some (v.1, ((v.2 : Nat) : Int)) := by simp only [tkLen, h1, if_pos (show v.1 ≤ 256 by omega)]
      simp only [Eyed, e]
      exact ⟨h2, by simp⟩
theorem eyed_long {zs : List Int} {st : Option Int} {q n : Int} (h : Eyed (tkNum zs) st (some q) n) (hn : 256 < n) : Eyed (tkLen zs) st none 0 := by
  cases st with
  | none => rfl
  | some p =>
    rcases eyed_num_cases h with ⟨_, h2⟩ | ⟨v, h1, h2, rfl⟩
    · cases h2
    · have e : tkLen zs p = none := by simp only [tkLen, h1, if_neg (show ¬ v.1 ≤ 256 by omega)]
      simp only [Eyed, e]
theorem eyed_none {zs : List Int} {st : Option Int} {n : Int} (h : Eyed (tkNum zs) st none n) : Eyed (tkLen zs) st none 0 := by
  cases st with
  | none => rfl
  | some p =>
    rcases eyed_num_cases h with ⟨h1, _⟩ | ⟨v, h1, h2, rfl⟩
    · have e : tkLen zs p = none := by simp only [tkLen, h1]
      simp only [Eyed, e]
    · cases h2

/-- What a call of the Eye's for a list's length does. -/
def LenSeen (zs : List Int) (g : Nat) (X : Value) (st : Option Int) (w : World) (e : Ending) (w' : World) : Prop :=
  ∃ (n : Nat) (st' : Option Int), e = .returned (.int .i64 n) ∧ n ≤ 256 ∧ Eyed (tkLen zs) st st' n ∧ EyeHas w' g X st' ∧ Only g w w' ∧ w'.heap.size = w.heap.size
set_option maxHeartbeats 1000000 in
set_option maxRecDepth 100000 in
theorem eye_list (A : Option Addr) (cap : Nat) (zs : List Int) (B g : Nat) (st : Option Int) (hl : zs.length ≤ 9223372036854775806) (hz : ∀ z ∈ zs, 0 ≤ z ∧ z ≤ 255) (w : World) (he : EyeHas w g (.slice A zs.length cap) st) (hh : Has w B A (u8s zs)) :
    Calls Try.prog 63 #[.pointer (some ⟨g, 0, none⟩)] w (LenSeen zs g (.slice A zs.length cap) st w) := by
  have HN := Lib.hid (eye_number A cap zs B g st hl hz w he hh)
  clear he hh hz hl
  go_enter Try.func63, Try.ntmps63
  go_wp2_with fail
  refine HN.out.mono ?_
  rintro e w1 ⟨n, st1, rfl, hf, ⟨p, bad, hb, hp, hs⟩, ho, hsz, hn0, hn1⟩
  have ce2 : w1.cell? ⟨g, 2, none⟩ = some (.bool bad) := hb.cell 2
  have fr2 := hb.frozen 2
  have HB := Lib.hid hb
  have HO := Lib.hid ho
  clear hb ho HN
  rcases hs with ⟨rfl, rfl⟩ | ⟨rfl, rfl⟩
  · by_cases h : n ≤ 256
    · obtain ⟨m, rfl⟩ : ∃ m : Nat, n = m := ⟨n.toNat, by omega⟩
      have HF := Lib.hid (eyed_len hf h)
      have dd : decide ((m : Int) > 256) = false := by simp; omega
      clear hf
      go_wp2_with fail
      go_ret
      exact ⟨m, some p, rfl, by omega, by simpa using HF.out, ⟨p, false, HB.out.set_ 2 (.bool false), hp, Or.inl ⟨rfl, rfl⟩⟩, HO.out.set_ 2 _, by simpa using hsz⟩
    · have HF := Lib.hid (eyed_long hf (by omega))
      have dd : decide (n > 256) = true := by simp; omega
      clear hf
      go_wp2_with fail
      go_ret
      exact ⟨0, none, rfl, by omega, HF.out, ⟨p, true, HB.out.set_ 2 (.bool true), hp, Or.inr ⟨rfl, rfl⟩⟩, HO.out.set_ 2 _, by simpa using hsz⟩
  · have HF := Lib.hid (eyed_none hf)
    clear hf
    go_wp2_with fail
    go_ret
    exact ⟨0, none, rfl, by omega, HF.out, ⟨p, true, HB.out.set_ 2 (.bool true), hp, Or.inr ⟨rfl, rfl⟩⟩, HO.out.set_ 2 _, by simpa using hsz⟩

/-- A round of a list's loop: the Eye, the row that grows, the variable's block. -/
structure Eyg (T : TypeId) (s g : Nat) (X : Value) (w W : World) (b : Nat) (L : Value) (n : Nat) (xs : List Value) (cs : Array Value) (st : Option Int) : Prop where
  only : Only g w W
  eye : EyeHas W g X st
  row : W.ownsRow w.heap.size T s L n xs
  blk : Blk W b T cs
  hg : g < w.heap.size
  hb : w.heap.size ≤ b
  hL : L.ownBlock ≠ some b
section
variable {T : TypeId} {s g n b : Nat} {X : Value} {w W W' : World} {L : Value} {xs : List Value} {cs : Array Value} {st st' : Option Int}
theorem Eyg.new (ho : Only g w W) (he : EyeHas W g X st) (hr : W.ownsRow w.heap.size T s L n xs) (hg : g < w.heap.size) (cs : Array Value) : Eyg T s g X w (W.alloc (.cells cs T)) W.heap.size L n xs cs st :=
  ⟨ho.alloc _, he.alloc _, hr.alloc _, Blk.new _ _ _, hg, ho.size, fun h => by have := (hr.lt _ h).2; omega⟩
theorem Eyg.set_ (h : Eyg T s g X w W b L n xs cs st) (i : Nat) (v : Value) : Eyg T s g X w (W.setCell ⟨b, i, none⟩ v) b L n xs (cs.setIfInBounds i v) st :=
  ⟨⟨h.only.os, h.only.tape, h.only.output, by simpa using h.only.size, fun k hk hne => (Below.heap_setCell W _ v k (by have := h.hb; simp; omega)).trans (h.only.block k hk hne)⟩, h.eye.far (by have := h.hg; have := h.hb; simp; omega) v, own_far h.row (p := ⟨b, i, none⟩) h.hL v, h.blk.set_ i v, h.hg, h.hb, h.hL⟩
theorem Eyg.call (h : Eyg T s g X w W b L n xs cs st) (ho : Only g W W') (he : EyeHas W' g X st') : Eyg T s g X w W' b L n xs cs st' :=
  ⟨h.only.trans ho, he, ho.own h.row (own_blk_lt h.row h.hg), ho.blk h.blk (by have := h.hg; have := h.hb; omega), h.hg, h.hb, h.hL⟩
theorem Eyg.app (h : Eyg T s g X w W b L n xs cs st) {o : Obj} (hgr : (W.alloc o).grownBy W' L.ownBlock) : Only g w W' ∧ EyeHas W' g X st :=
  ⟨(h.only.alloc o).grown hgr (fun k hk => Or.inl (h.row.lt k hk).1), (h.eye.alloc o).grown hgr (fun he => own_blk_lt h.row h.hg he.symm)⟩
theorem Eyg.cell (h : Eyg T s g X w W b L n xs cs st) (i : Nat) : W.cell? ⟨b, i, none⟩ = cs[i]? := h.blk.cell i
theorem Eyg.frozen (h : Eyg T s g X w W b L n xs cs st) (i : Nat) : W.frozen? ⟨b, i, none⟩ = false := h.blk.frozen i
end
end Go.Proofs.Ytkkaedcgpbjbmaa
