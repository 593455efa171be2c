/- The contracts of the document's own pen: fields one behind the other; bad once one cannot be written. -/
import Derived.Test.YtcebnmhkbhhfiaaWriter
import Derived.Test.YtcebnmhkbhhfiaaRefs
namespace Go.Proofs.Ytcebnmhkbhhfiaa
open Go.RowKit

def penStep (st : Option (List Int)) (ts : List Tok) : Option (List Int) := match st, codes ts with
  | some bs, some ns => some (bs ++ flat ns)
  | _, _ => none
theorem penStep_none (ts : List Tok) : penStep none ts = none := rfl
theorem penStep_app (st : Option (List Int)) (ta tb : List Tok) : penStep st (ta ++ tb) = penStep (penStep st ta) tb := by
  cases st with
  | none => rfl
  | some bs =>
    simp only [penStep, codes_app]
    cases codes ta <;> cases codes tb <;> simp [flat_app]
theorem penStep_nil (st : Option (List Int)) : penStep st [] = st := by
  cases st <;> simp [penStep, codes, flat]
theorem sgn_num {z : Int} (h : -549755813888 ≤ z ∧ z < 549755813888) : (∀ m : Nat, (Tok.sgn z).code = some m → zigS z = m) ∧ ((Tok.sgn z).code = none → zigS z < 0 ∨ 1099511627776 ≤ zigS z) := by
  have h1 := zigS_in h.1 h.2
  constructor
  · intro m hm
    rw [code_sgn_in h] at hm
    have h2 := Option.some.inj hm
    have h3 : ((zigS z).toNat : Int) = zigS z := Int.toNat_of_nonneg h1.1
    rw [← h3, h2]
  · intro hm
    rw [code_sgn_in h] at hm
    cases hm

end Go.Proofs.Ytcebnmhkbhhfiaa
