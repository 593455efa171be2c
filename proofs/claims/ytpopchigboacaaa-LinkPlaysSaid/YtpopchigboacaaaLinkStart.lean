/- Both at their beginning; one act of a row of acts. -/
import Derived.Test.YtpopchigboacaaaLinkDo
import Derived.Test.YtpopchigboacaaaLinkAll
import Derived.Test.YtpopchigboacaaaLinkLaws
namespace Go.Proofs.Ytpopchigboacaaa
open Go.RowKit Go.Sort
set_option linter.unusedSimpArgs false
set_option linter.unusedVariables false

theorem Jo.start {w w1 : World} {qb : Nat} {room : Int} (hq : Qu (fun k => w.heap.size ≤ k) w1 qb room 0 []) (hb : Below w.heap.size w w1) :
    Jo (fun k => w.heap.size ≤ k) w.heap.size w (w1.alloc (.cells #[.int .i64 room, .int .i64 0, .slice none 0 0] 42)) qb w1.heap.size room 0 (([] : List Bs).map Bs.z) 0 [] :=
  ⟨hq.below ((Below.refl _ w1).alloc (Nat.le_refl _) _), ⟨hb.size, _, Blk.new _ _ _, World.ownsRow_nil _ _ _ _, fun g hg => by cases hg⟩, by simp, Turn.of_below (hb.alloc hb.size _), fun _ h => h, fun k hk h => by omega⟩
/-- An act of the row, where it lies now. -/
theorem act_now {R : Nat → Prop} {w w0 wr : World} {qb pb : Nat} {room lost : Int} {L : List Bs} {A : Option Addr} {l : List Ac} {c k : Nat} (hj : Jo R w.heap.size w0 wr qb pb room lost (L.map Bs.z) lost L) (ha : IsActs w A l c) (hw : Has w0 w.heap.size A (l.flatMap Ac.cells)) (hk : k < l.length) :
    ∃ ad, A = some ad ∧ ad.block < w.heap.size ∧ wr.cell? (ad.add (k * 4)) = some (.int .i64 l[k].dd) ∧ wr.cell? ⟨(ad.add (k * 4)).block, (ad.add (k * 4)).off + 1, none⟩ = some (.int .i64 l[k].pt) ∧
      wr.cell? ⟨(ad.add (k * 4)).block, (ad.add (k * 4)).off + 2, none⟩ = some (.int .i64 l[k].kk) ∧ wr.cell? ⟨(ad.add (k * 4)).block, (ad.add (k * 4)).off + 3, none⟩ = some (.slice l[k].A l[k].b.length l[k].c) :=
  act_at (has_zone hw hj.tn hj.low) hk
theorem act_does {R : Nat → Prop} {w w0 wr : World} {qb pb : Nat} {room lost : Int} {L : List Bs} {x : Ac} (hj : Jo R w.heap.size w0 wr qb pb room lost (L.map Bs.z) lost L) (hx : x.Came w) (hw : Has w0 w.heap.size x.A (u8s x.b)) (hs : w.heap.size ≤ w0.heap.size) (h0 : 0 ≤ lost) (h1 : lost ≤ 1000000) :
    Calls Try.prog 19 #[.pointer (some ⟨qb, 0, none⟩), .pointer (some ⟨pb, 0, none⟩), .agg #[.int .i64 x.dd, .int .i64 x.pt, .int .i64 x.kk, .slice x.A x.b.length x.c]] wr fun e w' => e = .returned (.bool true) ∧ ∃ lost' l', Jo R w.heap.size w0 w' qb pb room lost' (l'.map Bs.z) lost' l' ∧ 0 ≤ lost' ∧ lost' ≤ lost + 1 :=
  do_any hj h0 h1 (Nat.le_trans hs hj.sz) hs hx.dd (has_zone hw hj.tn hj.low) (fun y hy => wf_u8 (hx.b.fits y hy)) (Nat.le_trans hx.b.le hx.b.most) hx.b.nil hx.b.le
end Go.Proofs.Ytpopchigboacaaa
