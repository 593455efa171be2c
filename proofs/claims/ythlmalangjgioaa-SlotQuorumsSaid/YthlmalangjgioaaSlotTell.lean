/- Slots whose votes are told by marks; Prepared, Committed with the answer given. -/
import Derived.Test.YthlmalangjgioaaSlot6
import Derived.Test.YthlmalangjgioaaRefBallot
import Derived.Test.YthlmalangjgioaaRefRising
namespace Go.Proofs.Ythlmalangjgioaa
open Go.RowKit
set_option linter.unusedSimpArgs false

/-- The marked nodes have voted for b, with seals from s0 on. -/
def tellM (n : Nat) (bs : List Bool) (s0 : Int) (b : List Rq) : List Vo := (List.range n).map fun (k : Nat) => if bs[k]? = some true then ⟨true, s0 + (k : Int), b⟩ else offV
def noM : List Bool := List.replicate 13 false
theorem tellM_len (n : Nat) (bs : List Bool) (s0 : Int) (b : List Rq) : (tellM n bs s0 b).length = n := by simp [tellM]
theorem tellM_at {n k : Nat} (bs : List Bool) (s0 : Int) (b : List Rq) (h : k < n) : (tellM n bs s0 b)[k]? = some (if bs[k]? = some true then ⟨true, s0 + (k : Int), b⟩ else offV) := by
  unfold tellM
  rw [List.getElem?_map, List.getElem?_range h]
  rfl
theorem tellM_zero {n m : Nat} (s0 : Int) (b : List Rq) : tellM n (List.replicate m false) s0 b = List.replicate n offV := by
  refine List.ext_getElem? fun k => ?_
  by_cases h : k < n
  · rw [tellM_at _ _ _ h, List.getElem?_replicate, List.getElem?_replicate, if_pos h, if_neg]
    split <;> simp
  · rw [List.getElem?_eq_none (by rw [tellM_len]; omega), List.getElem?_eq_none (by rw [List.length_replicate]; omega)]
theorem tellM_set {n k : Nat} {bs : List Bool} (hk : k < bs.length) (s0 : Int) (b : List Rq) : (tellM n bs s0 b).set k ⟨true, s0 + (k : Int), b⟩ = tellM n (bs.set k true) s0 b := by
  refine List.ext_getElem? fun j => ?_
  by_cases h : j < n
  · rw [List.getElem?_set, tellM_at _ _ _ h, tellM_at _ _ _ h, tellM_len, List.getElem?_set]
    by_cases e : k = j
    · subst e
      rw [if_pos rfl, if_pos h, if_pos rfl, if_pos hk, if_pos rfl]
    · rw [if_neg e, if_neg e]
  · rw [List.getElem?_eq_none (by rw [List.length_set, tellM_len]; omega), List.getElem?_eq_none (by rw [tellM_len]; omega)]
theorem tellM_had {n k : Nat} {bs : List Bool} (h : k < n) (hb : bs[k]? = some true) (s0 : Int) (b : List Rq) : votS (tellM n bs s0 b) (k : Int) (s0 + (k : Int)) b = (false, tellM n bs s0 b) :=
  votS_had (x := ⟨true, s0 + (k : Int), b⟩) (by rw [tellM_at _ _ _ h, if_pos hb]) rfl
theorem tellM_new {n k : Nat} {bs : List Bool} (h : k < n) (hb : bs[k]? = some false) (s0 : Int) (b : List Rq) : votS (tellM n bs s0 b) (k : Int) (s0 + (k : Int)) b = (true, tellM n (bs.set k true) s0 b) := by
  rw [votS_new (x := offV) (by rw [tellM_at _ _ _ h, if_neg (by rw [hb]; simp)]) rfl, tellM_set (List.getElem?_eq_some_iff.1 hb).1]
theorem set_same {bs : List Bool} {k : Nat} (h : bs[k]? = some true) : bs.set k true = bs := by
  obtain ⟨h1, h2⟩ := List.getElem?_eq_some_iff.1 h
  rw [← h2, List.set_getElem_self]
theorem tellM_any {n k : Nat} {bs : List Bool} {c : Bool} (h : k < n) (hb : bs[k]? = some c) (s0 : Int) (b : List Rq) : votS (tellM n bs s0 b) (k : Int) (s0 + (k : Int)) b = (!c, tellM n (bs.set k true) s0 b) := by
  cases c
  · exact tellM_new h hb s0 b
  · rw [set_same hb]; exact tellM_had h hb s0 b
section
variable {w wr : World} {sb q : Nat} {v1 v2 : Value} {f : Int} {s : Sx} {l : List Vt} {b : List Rq}
theorem prep_none (h : Rs w sb v1 v2 f s wr) (hq : (q : Int) = 2 * f + 1) (hs : s.prep q = none) :
    Calls Try.prog 15 #[.pointer (some ⟨sb, 0, none⟩)] wr fun e w' => ∃ A d, e = .returned (.tuple #[.slice A 0 d, .bool false]) ∧ Below wr.heap.size wr w' := by
  have := sprep_any h.sl hq
  rw [hs] at this
  refine this.mono fun e w' ⟨u, he, ho, hb⟩ => ?_
  obtain ⟨A, d, rfl, -, -⟩ := own_slice ho
  exact ⟨A, d, he, hb⟩
theorem prep_some (h : Rs w sb v1 v2 f s wr) (hq : (q : Int) = 2 * f + 1) (hs : s.prep q = some l) (hl : l.length = q) :
    Calls Try.prog 15 #[.pointer (some ⟨sb, 0, none⟩)] wr fun e w' => ∃ A d, e = .returned (.tuple #[.slice A q d, .bool true]) ∧ w'.ownsRow wr.heap.size 44 2 (.slice A q d) q (voteCells l) ∧ Below wr.heap.size wr w' := by
  have := sprep_any h.sl hq
  rw [hs] at this
  refine this.mono fun e w' ⟨u, he, ho, hb⟩ => ?_
  have ho' : w'.ownsRow wr.heap.size 44 2 u q (voteCells l) := by rw [← hl]; exact ho
  obtain ⟨A, d, rfl, -, -⟩ := own_slice ho'
  exact ⟨A, d, he, ho', hb⟩
theorem com_none (h : Rs w sb v1 v2 f s wr) (hq : (q : Int) = 2 * f + 1) (hs : s.com q = none) :
    Calls Try.prog 16 #[.pointer (some ⟨sb, 0, none⟩)] wr fun e w' => ∃ A d A' d', e = .returned (.tuple #[.slice A 0 d, .slice A' 0 d', .bool false]) ∧ Below wr.heap.size wr w' := by
  have := scom_any h.sl hq
  rw [hs] at this
  refine this.mono fun e w' ⟨u, u', he, ho, ho', hb⟩ => ?_
  obtain ⟨A, d, rfl, -, -⟩ := own_slice ho
  obtain ⟨A', d', rfl, -, -⟩ := own_slice ho'
  exact ⟨A, d, A', d', he, hb⟩
theorem com_some (h : Rs w sb v1 v2 f s wr) (hq : (q : Int) = 2 * f + 1) (hs : s.com q = some (b, l)) (hl : l.length = q) {n : Nat} (hn : b.length = n) :
    Calls Try.prog 16 #[.pointer (some ⟨sb, 0, none⟩)] wr fun e w' => ∃ A d A' d', e = .returned (.tuple #[.slice A n d, .slice A' q d', .bool true]) ∧ w'.ownsRow wr.heap.size 32 6 (.slice A n d) n (reqCells b) ∧ w'.ownsRow wr.heap.size 44 2 (.slice A' q d') q (voteCells l) ∧ Below wr.heap.size wr w' := by
  have := scom_any h.sl hq
  rw [hs] at this
  refine this.mono fun e w' ⟨u, u', he, ho, ho', hb⟩ => ?_
  have k1 : w'.ownsRow wr.heap.size 32 6 u n (reqCells b) := by rw [← hn]; exact ho
  have k2 : w'.ownsRow wr.heap.size 44 2 u' q (voteCells l) := by rw [← hl]; exact ho'
  obtain ⟨A, d, rfl, -, -⟩ := own_slice k1
  obtain ⟨A', d', rfl, -, -⟩ := own_slice k2
  exact ⟨A, d, A', d', he, k1, k2, hb⟩
end
theorem bool_cell14 {w : World} {g k : Nat} {bs : List Bool} {b : Bool} (h : Blk w g 63 (boolCells bs)) (hb : bs[k]? = some b) : w.cell? ⟨g, k, none⟩ = some (.bool b) := by rw [h.cell, boolCells_get hb]
theorem tell_other {b c : List Rq} (h : b ≠ c) (n k : Nat) (bs : List Bool) (s0 : Int) : forL k (tellM n bs s0 b) c = [] := by
  refine List.eq_nil_iff_length_eq_zero.2 ?_
  have : ∀ (l : List Nat) (k : Nat), forL k (l.map fun (k : Nat) => if bs[k]? = some true then (⟨true, s0 + (k : Int), b⟩ : Vo) else offV) c = [] := by
    intro l
    induction l with
    | nil => intro k; rfl
    | cons x l ih =>
      intro k
      rw [List.map_cons, forL_cons, ih (k + 1), if_neg]
      by_cases e : bs[x]? = some true
      · rw [if_pos e]; exact fun e => h e.2
      · rw [if_neg e]; rintro ⟨e, -⟩; cases e
  rw [show forL k (tellM n bs s0 b) c = [] from this _ _]; rfl
section
variable {w wr wz : World} {sb : Nat} {v1 v2 : Value} {f : Int} {s : Sx}
/-- A slot is as it was where a row of another type has grown. -/
theorem Rs.grown (h : Rs w sb v1 v2 f s wr) {b n m : Nat} {t : TypeId} {v : Value} {xs : List Value} (ho : wr.ownsRow b t m v n xs) (hb : w.heap.size ≤ b) (hg : wr.grownBy wz v.ownBlock) (h1 : t ≠ 66) (h2 : t ≠ 70) (h3 : t ≠ 32) : Rs w sb v1 v2 f s wz := by
  have ht : Turn (fun k => v.ownBlock = some k) wr wz := (Turn.refl _ wr).grown hg (fun k hk _ => hk)
  refine ⟨h.sl.kept ht (fun k hk e => ?_) (fun u y hu g hg' e => ?_), h.zn, h.low.trans (ht.below h.low.size (fun k hk e => by have := (ho.lt k e).1; omega))⟩
  · rcases ho.2 with ⟨rfl, _⟩ | ⟨g', cap, cur, rfl, _, hh, _⟩
    · cases e
    · have : g' = k := Option.some.inj e
      subst this
      exact h.sl.off (show Blk wr g' t cur from hh) h1 h2 hk
  · rcases own_apart hu.own ho (Ne.symm h3) with e' | e'
    · rw [e'] at hg'; cases hg'
    · exact e' (hg'.trans e.symm)
end
end Go.Proofs.Ythlmalangjgioaa
