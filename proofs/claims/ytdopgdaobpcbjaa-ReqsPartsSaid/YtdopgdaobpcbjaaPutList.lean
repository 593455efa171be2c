/- The contracts of the writer's lists. -/
import Derived.Test.YtdopgdaobpcbjaaWriter
import Derived.Test.YtdopgdaobpcbjaaLists
namespace Go.Proofs.Ytdopgdaobpcbjaa
open Go.RowKit

/-- What holds at the head of putList's loop: so many things have been written. -/
def PutRel {α : Type} (f : α → List Tok) (l : List α) (w : World) (B g : Nat) (bs : List Int) (x : Value) (wr : World) : Prop :=
  ∃ (k : Nat) (ns : List Nat), x = .int .i64 k ∧ k ≤ l.length ∧ codes (.len l.length :: (l.take k).flatMap f) = some ns ∧ Wr wr B g (bs ++ flat ns) ∧ Kept B g 5 w wr

theorem len_num {n : Nat} (h : n ≤ 256) : codes ([(n : Int)].map .num) = some [n] ∧ codes [.len n] = some [n] :=
  ⟨codes_one (code_num.2 ⟨rfl, by omega⟩), codes_one (code_len.2 ⟨rfl, h⟩)⟩
theorem PutRel.start {α : Type} {f : α → List Tok} {l : List α} {w w1 : World} {B g : Nat} {bs : List Int} (hn : l.length ≤ 256) {e : Ending} (h : WrPost w B g bs ([(l.length : Int)].map .num) e w1) :
    e = .returned (.bool true) ∧ PutRel f l w B g bs (.int .i64 0) w1 := by
  obtain ⟨hk, ⟨ns, h1, h2, h3⟩ | ⟨h1, _⟩⟩ := h
  · rw [(len_num hn).1] at h1
    injection h1 with h1
    subst h1
    exact ⟨h2, 0, _, rfl, Nat.zero_le _, by simpa using (len_num hn).2, h3, hk⟩
  · rw [(len_num hn).1] at h1; cases h1
theorem put_more {α : Type} {f : α → List Tok} {l : List α} {k : Nat} (hk : k < l.length) : (Tok.len l.length :: (l.take (k + 1)).flatMap f) = (Tok.len l.length :: (l.take k).flatMap f) ++ f l[k] := by
  rw [List.take_succ_eq_append_getElem hk, List.flatMap_append]
  simp
theorem put_split {α : Type} {f : α → List Tok} {l : List α} {k : Nat} (hk : k < l.length) : listToks f l = (Tok.len l.length :: (l.take k).flatMap f) ++ (f l[k] ++ (l.drop (k + 1)).flatMap f) := by
  unfold listToks
  conv => lhs; rw [← List.take_append_drop (k + 1) l, List.flatMap_append, List.take_succ_eq_append_getElem hk, List.flatMap_append]
  simp

theorem PutRel.next {α : Type} {f : α → List Tok} {l : List α} {w wr w2 : World} {B g : Nat} {bs : List Int} {k : Nat} {ns : List Nat} {x : α} {e : Ending} (hlt : k < l.length) (hx : l[k] = x)
    (hc : codes (.len l.length :: (l.take k).flatMap f) = some ns) (hk : Kept B g 5 w wr) (hp : WrPost wr B g (bs ++ flat ns) (f x) e w2) :
    (e = .returned (.bool true) ∧ PutRel f l w B g bs (.int .i64 ((k + 1 : Nat) : Int)) w2) ∨ (e = .returned (.bool false) ∧ WrPost w B g bs (listToks f l) (.returned (.bool false)) w2) := by
  subst hx
  obtain ⟨hk2, ⟨na, h1, h2, h3⟩ | ⟨h1, h2⟩⟩ := hp
  · refine Or.inl ⟨h2, k + 1, ns ++ na, rfl, hlt, ?_, by rw [flat_app, ← List.append_assoc]; exact h3, hk.trans hk2⟩
    rw [put_more hlt]
    exact codes_app_some hc h1
  · refine Or.inr ⟨h2, WrPost.bad ?_ (hk.trans hk2)⟩
    rw [put_split hlt]
    exact codes_app_none2 (codes_app_none1 h1)
theorem put_bound {α : Type} {f : α → List Tok} {l : List α} {bs : List Int} {k : Nat} {ns : List Nat} {x : α} {n : Nat} (hlt : k < l.length) (hx : l[k] = x)
    (hc : codes (.len l.length :: (l.take k).flatMap f) = some ns) (hs : bs.length + 6 * (listToks f l).length ≤ n) : (bs ++ flat ns).length + 6 * (f x).length ≤ n := by
  subst hx
  refine wr_len hc ?_
  rw [put_split hlt] at hs
  simp only [List.length_append] at hs ⊢
  omega
theorem PutRel.done {α : Type} {f : α → List Tok} {l : List α} {w wr : World} {B g : Nat} {bs : List Int} {k : Nat} {ns : List Nat} (hk : l.length ≤ k)
    (hc : codes (.len l.length :: (l.take k).flatMap f) = some ns) (hv : Wr wr B g (bs ++ flat ns)) (hkp : Kept B g 5 w wr) : WrPost w B g bs (listToks f l) (.returned (.bool true)) wr := by
  rw [List.take_of_length_le hk] at hc
  exact WrPost.good hc hv hkp
theorem put_long {α : Type} {f : α → List Tok} {l : List α} {w : World} {B g : Nat} {bs : List Int} (hl : 256 < l.length) : WrPost w B g bs (listToks f l) (.returned (.bool false)) w :=
  WrPost.bad (codes_none_head (by simp only [Tok.code]; rw [if_neg (by omega)])) (Kept.refl _ _ _ _)

end Go.Proofs.Ytdopgdaobpcbjaa
