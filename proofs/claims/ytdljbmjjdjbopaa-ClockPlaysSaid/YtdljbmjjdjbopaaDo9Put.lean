/- psephoslaw09's do at Set: the two behind the clock's Set and the plain one's drop, and behind the new rows. -/
import Derived.Test.YtdljbmjjdjbopaaDo9
namespace Go.Proofs.Ytdljbmjjdjbopaa
open Go.RowKit Go.Maps Go.Sort
set_option linter.unusedVariables false

theorem blk_ne_map {w : World} {x b n : Nat} {ty : TypeId} {cs : Array Value} {k : TypeId} {R : Value → Option (DataW Unit × List MemPlace)} {D : DataW Unit} (hb : Blk w x ty cs) (hm : w.ownsMap Try.prog k R b n D) : x ≠ b := by
  rintro rfl
  obtain ⟨es, clock, hmm, _⟩ := hm
  unfold Blk at hb
  rw [hmm] at hb
  cases hb
/-- The clock has been set, the plain one's old timer struck, the new one not yet laid. -/
structure Ju (w0 : World) (cb bm pb : Nat) (now : Int) (N : Nat) (S : Ts) (L' : List (Int × Int)) (id t : Int) (w5 : World) : Prop where
  cs : Cs w0 cb bm now (N + 1) (S.set id t) w5
  pl : Pl w0.heap.size w5 pb now L'
  tl : Tl (L' ++ [(id, t)]) (S.set id t)
  len : L'.length ≤ N
  p0 : w0.heap.size ≤ pb
  ne1 : pb ≠ cb
  ne2 : pb ≠ bm
theorem put_done {w0 w5 wz : World} {cb bm pb N m c10 c24 : Nat} {now id t : Int} {S : Ts} {L' : List (Int × Int)} {A10 A24 : Option Addr} (h : Ju w0 cb bm pb now N S L' id t w5) (hm : L'.length = m)
    (kb : Blk wz pb 40 #[.int .i64 now, .slice A10 (m + 1) c10, .slice A24 (m + 1) c24])
    (o10 : wz.ownsRow w5.heap.size 3 1 (.slice A10 (m + 1) c10) (m + 1) (ics (L'.map Prod.fst ++ [id])))
    (o24 : wz.ownsRow w5.heap.size 3 1 (.slice A24 (m + 1) c24) (m + 1) (ics (L'.map Prod.snd ++ [t])))
    (ht : Turn (fun k => k = pb) w5 wz) : Jp w0 cb bm pb now (N + 1) (S.set id t) (L' ++ [(id, t)]) wz := by
  have hsz := h.cs.low.size
  have hl : (L' ++ [(id, t)]).length = m + 1 := by simp [hm]
  refine ⟨⟨h.cs.ck.kept ht (fun e => h.ne1 e.symm) (fun e => h.ne2 e.symm), h.cs.low.trans (ht.below hsz (fun k hk e => by have := h.p0; omega)), h.cs.b0, h.cs.b1⟩, ⟨_, _, kb, ?_, ?_⟩, h.tl, h.p0, ?_⟩
  · rw [hl, List.map_append]
    exact own_low9 o10 hsz
  · rw [hl, List.map_append]
    exact own_low9 o24 hsz
  · rw [hl]
    have := h.len
    omega
end Go.Proofs.Ytdljbmjjdjbopaa
