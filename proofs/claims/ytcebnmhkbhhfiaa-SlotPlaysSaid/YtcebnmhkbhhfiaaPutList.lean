/- The contracts of the writer's lists. -/
import Derived.Test.YtcebnmhkbhhfiaaWriter
import Derived.Test.YtcebnmhkbhhfiaaLists
namespace Go.Proofs.Ytcebnmhkbhhfiaa
open Go.RowKit

theorem len_num {n : Nat} (h : n ≤ 256) : codes ([(n : Int)].map .num) = some [n] ∧ codes [.len n] = some [n] :=
  ⟨codes_one (code_num.2 ⟨rfl, by omega⟩), codes_one (code_len.2 ⟨rfl, h⟩)⟩
theorem put_more {α : Type} {f : α → List Tok} {l : List α} {k : Nat} (hk : k < l.length) : (Tok.len l.length :: (l.take (k + 1)).flatMap f) = (Tok.len l.length :: (l.take k).flatMap f) ++ f l[k] := by
  rw [List.take_succ_eq_append_getElem hk, List.flatMap_append]
  simp
theorem put_split {α : Type} {f : α → List Tok} {l : List α} {k : Nat} (hk : k < l.length) : listToks f l = (Tok.len l.length :: (l.take k).flatMap f) ++ (f l[k] ++ (l.drop (k + 1)).flatMap f) := by
  unfold listToks
  conv => lhs; rw [← List.take_append_drop (k + 1) l, List.flatMap_append, List.take_succ_eq_append_getElem hk, List.flatMap_append]
  simp

theorem put_bound {α : Type} {f : α → List Tok} {l : List α} {bs : List Int} {k : Nat} {ns : List Nat} {x : α} {n : Nat} (hlt : k < l.length) (hx : l[k] = x)
    (hc : codes (.len l.length :: (l.take k).flatMap f) = some ns) (hs : bs.length + 6 * (listToks f l).length ≤ n) : (bs ++ flat ns).length + 6 * (f x).length ≤ n := by
  subst hx
  refine wr_len hc ?_
  rw [put_split hlt] at hs
  simp only [List.length_append] at hs ⊢
  omega
end Go.Proofs.Ytcebnmhkbhhfiaa
