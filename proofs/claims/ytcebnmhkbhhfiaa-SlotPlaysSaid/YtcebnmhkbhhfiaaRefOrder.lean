/- The contract of the document's Order. -/
import Derived.Test.YtcebnmhkbhhfiaaRefRows
import Derived.Test.YtcebnmhkbhhfiaaReqRow
import Derived.Test.YtcebnmhkbhhfiaaApps
import Derived.Deep.RegionLaw
import Derived.Maps.AppendAt
import Derived.StillTailTactics
import Derived.IntWalk
import Derived.Laws.OwnMore
namespace Go.Proofs.Ytcebnmhkbhhfiaa
open Go.RowKit

structure OrdSt (w : World) (zs : List Rq) (i : Nat) (out : List Rq) (v : Value) (wr : World) : Prop where
  own : wr.ownsRow w.heap.size 71 6 v out.length (reqCells out)
  low : Below w.heap.size w wr
  is : orderS (zs.take i) = out
structure PlSt (w : World) (out : List Rq) (r : Rq) (v : Value) (k : Nat) (wr : World) : Prop where
  own : wr.ownsRow w.heap.size 71 6 v out.length (reqCells out)
  low : Below w.heap.size w wr
  is : place r out out.length = place r out k
theorem order_next {zs out : List Rq} {i : Nat} {r : Rq} (h : zs[i]? = some r) (ho : orderS (zs.take i) = out) : orderS (zs.take (i + 1)) = insS out r := by
  rw [List.take_add_one, h, ← ho]
  exact orderS_snoc _ _
theorem ins_had {out : List Rq} {r : Rq} (h : hasB out r = true) : insS out r = out := if_pos (of_decide_eq_true h)
theorem ins_new {out : List Rq} {r : Rq} (h : hasB out r = false) : insS out r = putS r out (place r out out.length) := if_neg (of_decide_eq_false h)
theorem place_stop {r x : Rq} {out : List Rq} {k : Nat} (h : out[k]? = some x) (hc : ¬ cmpR r x < 0) : place r out (k + 1) = k + 1 := by
  unfold place; rw [h]; exact if_neg hc
theorem place_down {r x : Rq} {out : List Rq} {k : Nat} (h : out[k]? = some x) (hc : cmpR r x < 0) : place r out (k + 1) = place r out k := by
  conv => lhs; unfold place
  rw [h]; exact if_pos hc

theorem own_none1 {w : World} {base n c s : Nat} {e : TypeId} {A : Option Addr} {xs : List Value} (h : w.ownsRow base e s (.slice A n c) n xs) : A = none → c = 0 := by
  intro hA
  rcases h.2 with ⟨h2, _⟩ | ⟨g, cap, cur, hv, _⟩
  · injection h2
  · subst hA
    injection hv with h3
    cases h3
theorem own_prefix {w : World} {base n c k s : Nat} {e : TypeId} {A : Option Addr} {xs : List Value} (h : w.ownsRow base e s (.slice A n c) n xs) (hk : k ≤ n) : w.ownsRow base e s (.slice A k c) k (xs.take (k * s)) := by
  have hks : k * s ≤ n * s := Nat.mul_le_mul_right s hk
  refine ⟨by rw [List.length_take, h.1]; omega, ?_⟩
  rcases h.2 with ⟨h2, h3⟩ | ⟨g, cap, cur, hv, hg, hb, hc, hm, hz, ht⟩
  · injection h2 with a1 a2 a3
    subst a1 a3
    exact Or.inl ⟨by rw [show k = 0 by omega], by omega⟩
  · injection hv with a1 a2 a3
    subst a1 a3
    exact Or.inr ⟨g, c, cur, rfl, hg, hb, by omega, hm, hz, by rw [← ht, List.take_take, Nat.min_eq_left hks]⟩
theorem own_box {w : World} {r : Rq} : (w.alloc (.cells #[.int .i64 r.cl, .int .i64 r.tm, .int .i64 r.kd, .int .i64 r.ky, .int .i64 r.vl, .int .i64 r.sg] 71)).ownsRow w.heap.size 71 6 (.slice (some ⟨w.heap.size, 0, none⟩) 1 1) 1 (Rq.cells r) :=
  World.ownsRow_lit w #[.int .i64 r.cl, .int .i64 r.tm, .int .i64 r.kd, .int .i64 r.ky, .int .i64 r.vl, .int .i64 r.sg] 1 (Nat.le_refl _) (by unfold maxLen; omega) (by rfl)
theorem putS_len {r : Rq} {out : List Rq} {k : Nat} (h : k ≤ out.length) : (putS r out k).length = k + (1 + (out.length - k)) := by
  unfold putS; rw [List.length_append, List.length_cons, List.length_take, List.length_drop]; omega
theorem putS_cells (r : Rq) (out : List Rq) (k : Nat) : reqCells (putS r out k) = (reqCells out).take (k * 6) ++ (Rq.cells r ++ reqCells (out.drop k)) := by
  unfold putS
  rw [reqCells_app, reqCells_take]
  rfl
/-- What the last statement of a round leaves. -/
theorem ord_put {w w3 w4 w5 : World} {zs out : List Rq} {i k n2 : Nat} {r : Rq} {A Ac : Option Addr} {cv cc : Nat} (hx : zs[i]? = some r) (hoi : orderS (zs.take i) = out) (hi : insS out r = putS r out k) (hk : k ≤ out.length)
    (hlow : Below w.heap.size w w3) (hg4 : ((w3.drew).alloc (.cells #[.int .i64 r.cl, .int .i64 r.tm, .int .i64 r.kd, .int .i64 r.ky, .int .i64 r.vl, .int .i64 r.sg] 71)).grownBy w4 (some w3.heap.size))
    (hop : w4.ownsRow w.heap.size 71 6 (.slice A k cv) k ((reqCells out).take (k * 6))) (hg5 : w4.grownBy w5 (Value.slice A k cv).ownBlock)
    (ho5 : w5.ownsRow w.heap.size 71 6 (.slice Ac n2 cc) (k + (1 + (out.length - k))) ((reqCells out).take (k * 6) ++ (Rq.cells r ++ reqCells (out.drop k)))) : OrdSt w zs (i + 1) (putS r out k) (.slice Ac n2 cc) w5 := by
  refine ⟨by rw [putS_len hk, putS_cells]; exact ho5, ?_, by rw [order_next hx hoi, hi]⟩
  have h1 : Below w.heap.size w w3.drew := hlow.trans ⟨rfl, rfl, rfl, Nat.le_refl _, fun _ _ => rfl⟩
  have h2 := h1.alloc h1.size (.cells #[.int .i64 r.cl, .int .i64 r.tm, .int .i64 r.kd, .int .i64 r.ky, .int .i64 r.vl, .int .i64 r.sg] 71)
  have h3 : Below w.heap.size w w4 := h2.grown hg4 h2.size (fun k hk => by cases hk; exact hlow.size)
  exact h3.grown hg5 h3.size (fun k hk => (hop.lt k hk).1)
end Go.Proofs.Ytcebnmhkbhhfiaa
