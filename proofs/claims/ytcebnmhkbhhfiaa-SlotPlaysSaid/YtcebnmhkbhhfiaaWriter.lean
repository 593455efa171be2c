/- The contracts of the writer of package pack: fields one behind the other, up to the first that cannot be written. -/
import Derived.Test.YtcebnmhkbhhfiaaGears
import Derived.Test.YtcebnmhkbhhfiaaForms
import Derived.Test.YtcebnmhkbhhfiaaNum
import Derived.Test.YtcebnmhkbhhfiaaSignum
namespace Go.Proofs.Ytcebnmhkbhhfiaa
open Go.RowKit

theorem codes_snoc {ts : List Tok} {k : Nat} {t : Tok} {r : List Tok} {ns : List Nat} {n : Nat} (hd : ts.drop k = t :: r) (h : codes (ts.take k) = some ns) (ht : t.code = some n) : codes (ts.take (k + 1)) = some (ns ++ [n]) := by
  rw [(take_more hd).1]
  exact codes_app_some h (codes_one ht)
theorem codes_stop {ts : List Tok} {k : Nat} {t : Tok} {r : List Tok} (hd : ts.drop k = t :: r) (ht : t.code = none) : codes ts = none := by
  rw [← List.take_append_drop k ts, hd]
  exact codes_app_none2 (codes_none_head ht)

theorem flat_take_len {ts : List Tok} {k : Nat} {ns : List Nat} (h : codes (ts.take k) = some ns) : (flat ns).length ≤ 6 * k := by
  have h1 := flat_len ns (codes_small h)
  rw [codes_len h] at h1
  have h2 : (ts.take k).length ≤ k := List.length_take_le _ _
  omega
theorem drop_map {α β : Type} (f : α → β) {l : List α} {k : Nat} (hk : k < l.length) : (l.map f).drop k = f l[k] :: (l.map f).drop (k + 1) := by
  rw [List.drop_eq_getElem_cons (by simpa using hk)]
  simp

theorem wr_len {bs : List Int} {ts : List Tok} {ns : List Nat} {n k : Nat} (hc : codes ts = some ns) (hs : bs.length + 6 * (ts.length + k) ≤ n) : (bs ++ flat ns).length + 6 * k ≤ n := by
  have h1 := flat_len ns (codes_small hc)
  rw [codes_len hc] at h1
  rw [List.length_append]
  omega

end Go.Proofs.Ytcebnmhkbhhfiaa
