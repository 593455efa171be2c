/- A table with one request alone: what Put, Since answer. Nothing of the program. -/
import Derived.Test.YtbpefdnlldpjiaaPropClone
namespace Go.Proofs.Ytbpefdnlldpjiaa
open Go.RowKit Go.Sort

def oneL (e : Bool) (x : Tr) : List Tr := if e then [x] else []
theorem one_put {f n : Int} {e : Bool} {x : Tr} {r : Rq} {nd ck : Int} (hx : x.rq = r) (hb : e = false → x = blank r) (h : 0 ≤ r.cl ∧ r.cl < n ∧ 0 ≤ nd ∧ nd < 3 * f + 1) : putT f n (oneL e x) r nd ck = ((!e, (mark f x nd ck).2, 0), oneL true (mark f x nd ck).1) := by
  unfold putT
  rw [if_pos h]
  cases e
  · obtain rfl := hb rfl
    have h1 : had (oneL false (blank r)) r = false := rfl
    have h2 : pend (oneL false (blank r)) r.cl = 0 := rfl
    have h3 : rowOf (oneL false (blank r)) r = blank r := rfl
    rw [if_neg (by rw [h2]; simp), h1, h3]
    rfl
  · have h1 : had (oneL true x) r = true := by unfold had rqs oneL; simp [hx]
    have h3 : rowOf (oneL true x) r = x := by show (if x.rq = r then x else rowOf [] r) = x; rw [if_pos hx]
    rw [if_neg (by rw [h1]; simp), h1, h3]
    congr 1
    have hq : (mark f x nd ck).1.rq = x.rq := mark_rq _ _ _ _
    unfold upd
    rw [hq, hx, h1, if_pos rfl]
    have hs : seat (oneL true x) r = 0 := by show (if cmpR x.rq r < 0 then seat [] r + 1 else 0) = 0; rw [hx, cmpR_self, if_neg (by omega)]
    rw [hs]
    rfl
theorem one_since {f : Int} {y : Tr} {r : Rq} (h : y.rq = r) : sinceT f (oneL true y) r = if isReady f y = true then (y.sc, true) else (0, false) := by
  have h1 : had (oneL true y) r = true := by unfold had rqs oneL; simp [h]
  have h3 : rowOf (oneL true y) r = y := by show (if y.rq = r then y else rowOf [] r) = y; rw [if_pos h]
  unfold sinceT
  rw [h1, h3]
  simp
theorem bit_nat {bs : List Bool} {k : Nat} (h : k < 13) : bitS bs (k : Int) = bs.set k true := by
  unfold bitS
  rw [if_pos (by omega)]
  rfl
theorem marked_is {bs : List Bool} {k : Nat} {b : Bool} (h : k < 13) (hb : bs[k]? = some b) : marked bs (k : Int) = b := by
  unfold marked
  rw [decide_eq_true (by omega)]
  show (true && (bs[k]? == some true)) = b
  rw [hb]
  cases b <;> rfl
theorem mark_had {f : Int} {x : Tr} {k : Nat} {ck : Int} (h : k < 13) (hb : x.bs[k]? = some true) : mark f x k ck = (x, false) := by
  unfold mark
  rw [marked_is h hb, if_pos rfl]
theorem mark_new {f : Int} {x : Tr} {k : Nat} {ck : Int} (h : k < 13) (hb : x.bs[k]? = some false) : mark f x k ck = if (cnt x.bs : Int) = f then (⟨x.rq, x.bs.set k true, ck⟩, true) else (⟨x.rq, x.bs.set k true, x.sc⟩, false) := by
  unfold mark
  rw [marked_is h hb, if_neg (by simp), bit_nat h, cnt_set hb]
  by_cases e : (cnt x.bs : Int) = f
  · rw [if_pos (by omega), if_pos e]
  · rw [if_neg (by omega), if_neg e]
/-- A row of another type is as it was. -/
theorem TbPost.farRow {w w' : World} {tb b m s : Nat} {v v1 : Value} {f n : Int} {L L' : List Tr} {t : TypeId} {xs : List Value} (hp : TbPost w tb v f n L' w') (h : Tb w tb v f n L) (ho : w.ownsRow b t s v1 m xs) (h1 : t ≠ 64) (h2 : t ≠ 70) : w'.ownsRow b t s v1 m xs := by
  obtain ⟨v', _, _, ht⟩ := hp
  refine ht.own ho fun g hg => ?_
  rcases ho.2 with ⟨rfl, _⟩ | ⟨g', cap, cur, rfl, _, hh, _⟩
  · cases hg
  · have : g' = g := Option.some.inj hg
    subst this
    exact h.off (show Blk w g' t cur from hh) h1 h2
/-- What lay there when the call came is as it was. -/
theorem Rt.arg {w wr wz : World} {tb : Nat} {v : Value} {f n : Int} {L L' : List Tr} (h : Rt w tb v f n L wr) (hp : TbPost wr tb v f n L' wz) {k : Nat} (hk : k < w.heap.size) : wz.heap[k]? = wr.heap[k]? := by
  obtain ⟨v', _, _, ht⟩ := hp
  refine ht.block k (Nat.lt_of_lt_of_le hk h.low.size) fun hz => ?_
  rcases hz with rfl | hz
  · have := h.lt; omega
  · have := h.lg k hz; omega
theorem has_of_own {w : World} {b n c s : Nat} {e : TypeId} {A : Option Addr} {xs : List Value} (h : w.ownsRow b e s (.slice A n c) n xs) : Has w w.heap.size A xs := has_rows h
end Go.Proofs.Ytbpefdnlldpjiaa
