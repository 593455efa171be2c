/- The contracts of the document's ReqBody and Compare. -/
import Derived.Test.YtcebnmhkbhhfiaaRefValid
import Derived.Test.YtcebnmhkbhhfiaaPenCerts
import Derived.Deep.QuietTactic
import Derived.BigQuiet
namespace Go.Proofs.Ytcebnmhkbhhfiaa
open Go.RowKit

/-- What a client seals: the request without its seal. -/
def Rq.bare (r : Rq) : Rq := { r with sg := 0 }
theorem own_down {w : World} {b b' n s : Nat} {e : TypeId} {v : Value} {xs : List Value} (h : w.ownsRow b e s v n xs) (hb : b' ≤ b) : w.ownsRow b' e s v n xs := by
  refine ⟨h.1, ?_⟩
  rcases h.2 with h2 | ⟨g, cap, cur, hv, hg, r⟩
  · exact Or.inl h2
  · exact Or.inr ⟨g, cap, cur, hv, Nat.le_trans hb hg, r⟩
/-- From a later world back. -/
theorem BytesPost.back {ts : List Tok} {w w1 w' : World} {e : Ending} (h : BytesPost ts w1 e w') (hb : Below w.heap.size w w1) : BytesPost ts w e w' := by
  obtain ⟨h1, h2⟩ := h
  refine ⟨hb.trans (h1.mono hb.size), ?_⟩
  rcases h2 with ⟨bs, A, c, k1, k2, k3⟩ | h2
  · exact Or.inl ⟨bs, A, c, k1, k2, own_down k3 hb.size⟩
  · exact Or.inr h2
theorem key_len (r : Rq) : r.key.length = 6 := rfl
theorem key_cells {w : World} {g t : Nat} {r : Rq} (h : Blk w g t #[.int .i64 r.cl, .int .i64 r.tm, .int .i64 r.kd, .int .i64 r.ky, .int .i64 r.vl, .int .i64 r.sg]) {i : Nat} {x : Int} {l : List Int} (hd : r.key.drop i = x :: l) : w.cell? ⟨g, i, none⟩ = some (.int .i64 x) := by
  have h1 : r.key[i]? = some x := by
    have : (r.key.drop i)[0]? = some x := by rw [hd]; rfl
    rwa [List.getElem?_drop, Nat.add_zero] at this
  rw [h.cell i]
  have : (#[Value.int .i64 r.cl, .int .i64 r.tm, .int .i64 r.kd, .int .i64 r.ky, .int .i64 r.vl, .int .i64 r.sg] : Array Value) = (r.key.map (Value.int .i64)).toArray := rfl
  rw [this]
  simp [h1]
theorem cmpL_lt {x y : Int} {l m : List Int} (h : x < y) : cmpL (x :: l) (y :: m) = -1 := by unfold cmpL; rw [if_pos h]
theorem cmpL_gt {x y : Int} {l m : List Int} (h : y < x) : cmpL (x :: l) (y :: m) = 1 := by unfold cmpL; rw [if_neg (by omega), if_pos h]
theorem cmpL_eq {x : Int} {l m : List Int} : cmpL (x :: l) (x :: m) = cmpL l m := by
  show (if x < x then (-1 : Int) else if x < x then 1 else cmpL l m) = _
  rw [if_neg (by omega), if_neg (by omega)]
theorem drop_cons {α : Type} {l : List α} {i : Nat} (h : i < l.length) : ∃ x, l.drop i = x :: l.drop (i + 1) := ⟨l[i], List.drop_eq_getElem_cons h⟩
end Go.Proofs.Ytcebnmhkbhhfiaa
