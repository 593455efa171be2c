/- The contract of msgs.Parse: the message whose bytes these are, its lists in rows of the call's own. -/
import Derived.Test.YtiffmjfbdidgkaaGreatOS1
import Derived.Test.YtiffmjfbdidgkaaGreatOS3
import Derived.Test.YtiffmjfbdidgkaaGreatOS5
namespace Go.Proofs.YtiffmjfbdidgkaaGreat
open Go.RowKit

/-- A message whose lists are rows of the call's own. -/
structure Ms.Own (w : World) (b : Nat) (x : Ms) : Prop where
  bt : w.ownsRow b 106 6 (.slice x.A1 x.m.bt.length x.c1) x.m.bt.length (reqCells x.m.bt)
  vs : w.ownsRow b 39 2 (.slice x.A2 x.m.vs.length x.c2) x.m.vs.length (voteCells x.m.vs)
  cs : OwnCerts w b (.slice x.A3 x.m.cs.length x.c3) x.m.cs
  ps : OwnParts w b (.slice x.A4 x.m.ps.length x.c4) x.m.ps
theorem Ms.Own.in_ {w : World} {b : Nat} {x : Ms} (h : x.Own w b) : x.In w w.heap.size := ⟨Has.ownS h.bt, Has.ownS h.vs, h.cs.has, h.ps.has⟩
theorem Ms.Own.base {w : World} {b b' : Nat} {x : Ms} (h : x.Own w b) (hb : b' ≤ b) : x.Own w b' := ⟨own_base h.bt hb, own_base h.vs hb, h.cs.base hb, h.ps.base hb⟩
theorem Ms.Own.below {w w' : World} {b : Nat} {x : Ms} (h : x.Own w b) (hb : Below w.heap.size w w') : x.Own w' b := ⟨below_own h.bt hb (Nat.le_refl _), below_own h.vs hb (Nat.le_refl _), h.cs.below hb, h.ps.below hb⟩
/-- What a taker of a message answers. -/
def MsgTaken (o : Option Mg) (w : World) (e : Ending) (w' : World) : Prop :=
  Below w.heap.size w w' ∧ ((∃ x : Ms, o = some x.m ∧ e = .returned (.tuple #[.agg #[.int .i64 x.m.kd, .int .i64 x.m.fr, .int .i64 x.m.vw, .int .i64 x.m.ins, .int .i64 x.m.sq, .int .i64 x.m.rs, .slice x.A1 x.m.bt.length x.c1, .slice x.A2 x.m.vs.length x.c2, .slice x.A3 x.m.cs.length x.c3, .slice x.A4 x.m.ps.length x.c4], .bool true]) ∧ x.Own w' w.heap.size) ∨
    (o = none ∧ e = .returned (.tuple #[.agg #[.int .i64 0, .int .i64 0, .int .i64 0, .int .i64 0, .int .i64 0, .int .i64 0, .slice none 0 0, .slice none 0 0, .slice none 0 0, .slice none 0 0], .bool false])))
theorem OwnParts.none0 (w : World) (b : Nat) : OwnParts w b (.slice none 0 0) [] := ⟨[], rfl, World.ownsRow_nil _ _ _ _, by simp⟩
theorem OwnParts.keeps {T : TypeId} {w w' : World} {b : Nat} {v : Value} {l : List Pt} (h : OwnParts w b v l) (hk : KeepsRows T w w') (h0 : 110 ≠ T) (h1 : 106 ≠ T) (h2 : 39 ≠ T) (h3 : 112 ≠ T) : OwnParts w' b v l := by
  obtain ⟨L, e, ho, hi⟩ := h
  exact ⟨L, e, hk _ _ _ _ _ _ h3 ho, fun x hx => (hi x hx).keeps hk h0 h1 h2⟩
theorem keeps_cell {T : TypeId} {w : World} {g : Nat} {cs : Array Value} (h : Blk w g T cs) (i : Nat) (v : Value) : KeepsRows T w (w.setCell ⟨g, i, none⟩ v) := fun _ _ _ _ _ _ hne ho => own_far ho (p := ⟨g, i, none⟩) (own_blk_ne ho h hne) v
theorem Ms.Own.keeps {w w' : World} {b : Nat} {x : Ms} (h : x.Own w b) (hk : KeepsRows 35 w w') : x.Own w' b :=
  ⟨hk _ _ _ _ _ _ (by decide) h.bt, hk _ _ _ _ _ _ (by decide) h.vs, h.cs.keeps hk (by decide) (by decide) (by decide), h.ps.keeps hk (by decide) (by decide) (by decide) (by decide)⟩
/-- Block g is a message, these cells, whose lists are rows of the call's own above it. -/
structure Hold (w wr : World) (x : Ms) : Prop where
  low : Below w.heap.size w wr
  blk : Blk wr w.heap.size 35 #[.int .i64 x.m.kd, .int .i64 x.m.fr, .int .i64 x.m.vw, .int .i64 x.m.ins, .int .i64 x.m.sq, .int .i64 x.m.rs, .slice x.A1 x.m.bt.length x.c1, .slice x.A2 x.m.vs.length x.c2, .slice x.A3 x.m.cs.length x.c3, .slice x.A4 x.m.ps.length x.c4]
  own : x.Own wr (w.heap.size + 1)
set_option maxHeartbeats 4000000 in
theorem blk_ten {w : World} {g : Nat} {t : TypeId} {a0 a1 a2 a3 a4 a5 a6 a7 a8 a9 : Value} (h : Blk w g t #[a0, a1, a2, a3, a4, a5, a6, a7, a8, a9]) (b0 b1 b2 b3 b4 b5 b6 b7 b8 b9 : Value) : Blk (w.setCells g 0 [b0, b1, b2, b3, b4, b5, b6, b7, b8, b9]) g t #[b0, b1, b2, b3, b4, b5, b6, b7, b8, b9] := by
  have h0 : Blk (World.setCell w ⟨g, 0, none⟩ b0) g t #[b0, a1, a2, a3, a4, a5, a6, a7, a8, a9] := h.set_ 0 b0
  have h1 : Blk (World.setCell (World.setCell w ⟨g, 0, none⟩ b0) ⟨g, 1, none⟩ b1) g t #[b0, b1, a2, a3, a4, a5, a6, a7, a8, a9] := h0.set_ 1 b1
  have h2 : Blk (World.setCell (World.setCell (World.setCell w ⟨g, 0, none⟩ b0) ⟨g, 1, none⟩ b1) ⟨g, 2, none⟩ b2) g t #[b0, b1, b2, a3, a4, a5, a6, a7, a8, a9] := h1.set_ 2 b2
  have h3 : Blk (World.setCell (World.setCell (World.setCell (World.setCell w ⟨g, 0, none⟩ b0) ⟨g, 1, none⟩ b1) ⟨g, 2, none⟩ b2) ⟨g, 3, none⟩ b3) g t #[b0, b1, b2, b3, a4, a5, a6, a7, a8, a9] := h2.set_ 3 b3
  have h4 : Blk (World.setCell (World.setCell (World.setCell (World.setCell (World.setCell w ⟨g, 0, none⟩ b0) ⟨g, 1, none⟩ b1) ⟨g, 2, none⟩ b2) ⟨g, 3, none⟩ b3) ⟨g, 4, none⟩ b4) g t #[b0, b1, b2, b3, b4, a5, a6, a7, a8, a9] := h3.set_ 4 b4
  have h5 : Blk (World.setCell (World.setCell (World.setCell (World.setCell (World.setCell (World.setCell w ⟨g, 0, none⟩ b0) ⟨g, 1, none⟩ b1) ⟨g, 2, none⟩ b2) ⟨g, 3, none⟩ b3) ⟨g, 4, none⟩ b4) ⟨g, 5, none⟩ b5) g t #[b0, b1, b2, b3, b4, b5, a6, a7, a8, a9] := h4.set_ 5 b5
  have h6 : Blk (World.setCell (World.setCell (World.setCell (World.setCell (World.setCell (World.setCell (World.setCell w ⟨g, 0, none⟩ b0) ⟨g, 1, none⟩ b1) ⟨g, 2, none⟩ b2) ⟨g, 3, none⟩ b3) ⟨g, 4, none⟩ b4) ⟨g, 5, none⟩ b5) ⟨g, 6, none⟩ b6) g t #[b0, b1, b2, b3, b4, b5, b6, a7, a8, a9] := h5.set_ 6 b6
  have h7 : Blk (World.setCell (World.setCell (World.setCell (World.setCell (World.setCell (World.setCell (World.setCell (World.setCell w ⟨g, 0, none⟩ b0) ⟨g, 1, none⟩ b1) ⟨g, 2, none⟩ b2) ⟨g, 3, none⟩ b3) ⟨g, 4, none⟩ b4) ⟨g, 5, none⟩ b5) ⟨g, 6, none⟩ b6) ⟨g, 7, none⟩ b7) g t #[b0, b1, b2, b3, b4, b5, b6, b7, a8, a9] := h6.set_ 7 b7
  have h8 : Blk (World.setCell (World.setCell (World.setCell (World.setCell (World.setCell (World.setCell (World.setCell (World.setCell (World.setCell w ⟨g, 0, none⟩ b0) ⟨g, 1, none⟩ b1) ⟨g, 2, none⟩ b2) ⟨g, 3, none⟩ b3) ⟨g, 4, none⟩ b4) ⟨g, 5, none⟩ b5) ⟨g, 6, none⟩ b6) ⟨g, 7, none⟩ b7) ⟨g, 8, none⟩ b8) g t #[b0, b1, b2, b3, b4, b5, b6, b7, b8, a9] := h7.set_ 8 b8
  have h9 : Blk (World.setCell (World.setCell (World.setCell (World.setCell (World.setCell (World.setCell (World.setCell (World.setCell (World.setCell (World.setCell w ⟨g, 0, none⟩ b0) ⟨g, 1, none⟩ b1) ⟨g, 2, none⟩ b2) ⟨g, 3, none⟩ b3) ⟨g, 4, none⟩ b4) ⟨g, 5, none⟩ b5) ⟨g, 6, none⟩ b6) ⟨g, 7, none⟩ b7) ⟨g, 8, none⟩ b8) ⟨g, 9, none⟩ b9) g t #[b0, b1, b2, b3, b4, b5, b6, b7, b8, b9] := h8.set_ 9 b9
  exact h9
theorem below_ten {B : Nat} {a w : World} (h : Below B a w) (b0 b1 b2 b3 b4 b5 b6 b7 b8 b9 : Value) : Below B a (w.setCells B 0 [b0, b1, b2, b3, b4, b5, b6, b7, b8, b9]) :=
  ((((((((((h.setCell (p := ⟨B, 0, none⟩) (Nat.le_refl _) b0).setCell (p := ⟨B, 1, none⟩) (Nat.le_refl _) b1).setCell (p := ⟨B, 2, none⟩) (Nat.le_refl _) b2).setCell (p := ⟨B, 3, none⟩) (Nat.le_refl _) b3).setCell (p := ⟨B, 4, none⟩) (Nat.le_refl _) b4).setCell (p := ⟨B, 5, none⟩) (Nat.le_refl _) b5).setCell (p := ⟨B, 6, none⟩) (Nat.le_refl _) b6).setCell (p := ⟨B, 7, none⟩) (Nat.le_refl _) b7).setCell (p := ⟨B, 8, none⟩) (Nat.le_refl _) b8).setCell (p := ⟨B, 9, none⟩) (Nat.le_refl _) b9)
set_option maxHeartbeats 4000000 in
theorem keeps_ten {w : World} {g : Nat} {t : TypeId} {a0 a1 a2 a3 a4 a5 a6 a7 a8 a9 : Value} (h : Blk w g t #[a0, a1, a2, a3, a4, a5, a6, a7, a8, a9]) (b0 b1 b2 b3 b4 b5 b6 b7 b8 b9 : Value) : KeepsRows t w (w.setCells g 0 [b0, b1, b2, b3, b4, b5, b6, b7, b8, b9]) := by
  have h0 : Blk (World.setCell w ⟨g, 0, none⟩ b0) g t #[b0, a1, a2, a3, a4, a5, a6, a7, a8, a9] := h.set_ 0 b0
  have k0 : KeepsRows t w (World.setCell w ⟨g, 0, none⟩ b0) := keeps_cell h 0 b0
  have h1 : Blk (World.setCell (World.setCell w ⟨g, 0, none⟩ b0) ⟨g, 1, none⟩ b1) g t #[b0, b1, a2, a3, a4, a5, a6, a7, a8, a9] := h0.set_ 1 b1
  have k1 : KeepsRows t w (World.setCell (World.setCell w ⟨g, 0, none⟩ b0) ⟨g, 1, none⟩ b1) := k0.trans (keeps_cell h0 1 b1)
  have h2 : Blk (World.setCell (World.setCell (World.setCell w ⟨g, 0, none⟩ b0) ⟨g, 1, none⟩ b1) ⟨g, 2, none⟩ b2) g t #[b0, b1, b2, a3, a4, a5, a6, a7, a8, a9] := h1.set_ 2 b2
  have k2 : KeepsRows t w (World.setCell (World.setCell (World.setCell w ⟨g, 0, none⟩ b0) ⟨g, 1, none⟩ b1) ⟨g, 2, none⟩ b2) := k1.trans (keeps_cell h1 2 b2)
  have h3 : Blk (World.setCell (World.setCell (World.setCell (World.setCell w ⟨g, 0, none⟩ b0) ⟨g, 1, none⟩ b1) ⟨g, 2, none⟩ b2) ⟨g, 3, none⟩ b3) g t #[b0, b1, b2, b3, a4, a5, a6, a7, a8, a9] := h2.set_ 3 b3
  have k3 : KeepsRows t w (World.setCell (World.setCell (World.setCell (World.setCell w ⟨g, 0, none⟩ b0) ⟨g, 1, none⟩ b1) ⟨g, 2, none⟩ b2) ⟨g, 3, none⟩ b3) := k2.trans (keeps_cell h2 3 b3)
  have h4 : Blk (World.setCell (World.setCell (World.setCell (World.setCell (World.setCell w ⟨g, 0, none⟩ b0) ⟨g, 1, none⟩ b1) ⟨g, 2, none⟩ b2) ⟨g, 3, none⟩ b3) ⟨g, 4, none⟩ b4) g t #[b0, b1, b2, b3, b4, a5, a6, a7, a8, a9] := h3.set_ 4 b4
  have k4 : KeepsRows t w (World.setCell (World.setCell (World.setCell (World.setCell (World.setCell w ⟨g, 0, none⟩ b0) ⟨g, 1, none⟩ b1) ⟨g, 2, none⟩ b2) ⟨g, 3, none⟩ b3) ⟨g, 4, none⟩ b4) := k3.trans (keeps_cell h3 4 b4)
  have h5 : Blk (World.setCell (World.setCell (World.setCell (World.setCell (World.setCell (World.setCell w ⟨g, 0, none⟩ b0) ⟨g, 1, none⟩ b1) ⟨g, 2, none⟩ b2) ⟨g, 3, none⟩ b3) ⟨g, 4, none⟩ b4) ⟨g, 5, none⟩ b5) g t #[b0, b1, b2, b3, b4, b5, a6, a7, a8, a9] := h4.set_ 5 b5
  have k5 : KeepsRows t w (World.setCell (World.setCell (World.setCell (World.setCell (World.setCell (World.setCell w ⟨g, 0, none⟩ b0) ⟨g, 1, none⟩ b1) ⟨g, 2, none⟩ b2) ⟨g, 3, none⟩ b3) ⟨g, 4, none⟩ b4) ⟨g, 5, none⟩ b5) := k4.trans (keeps_cell h4 5 b5)
  have h6 : Blk (World.setCell (World.setCell (World.setCell (World.setCell (World.setCell (World.setCell (World.setCell w ⟨g, 0, none⟩ b0) ⟨g, 1, none⟩ b1) ⟨g, 2, none⟩ b2) ⟨g, 3, none⟩ b3) ⟨g, 4, none⟩ b4) ⟨g, 5, none⟩ b5) ⟨g, 6, none⟩ b6) g t #[b0, b1, b2, b3, b4, b5, b6, a7, a8, a9] := h5.set_ 6 b6
  have k6 : KeepsRows t w (World.setCell (World.setCell (World.setCell (World.setCell (World.setCell (World.setCell (World.setCell w ⟨g, 0, none⟩ b0) ⟨g, 1, none⟩ b1) ⟨g, 2, none⟩ b2) ⟨g, 3, none⟩ b3) ⟨g, 4, none⟩ b4) ⟨g, 5, none⟩ b5) ⟨g, 6, none⟩ b6) := k5.trans (keeps_cell h5 6 b6)
  have h7 : Blk (World.setCell (World.setCell (World.setCell (World.setCell (World.setCell (World.setCell (World.setCell (World.setCell w ⟨g, 0, none⟩ b0) ⟨g, 1, none⟩ b1) ⟨g, 2, none⟩ b2) ⟨g, 3, none⟩ b3) ⟨g, 4, none⟩ b4) ⟨g, 5, none⟩ b5) ⟨g, 6, none⟩ b6) ⟨g, 7, none⟩ b7) g t #[b0, b1, b2, b3, b4, b5, b6, b7, a8, a9] := h6.set_ 7 b7
  have k7 : KeepsRows t w (World.setCell (World.setCell (World.setCell (World.setCell (World.setCell (World.setCell (World.setCell (World.setCell w ⟨g, 0, none⟩ b0) ⟨g, 1, none⟩ b1) ⟨g, 2, none⟩ b2) ⟨g, 3, none⟩ b3) ⟨g, 4, none⟩ b4) ⟨g, 5, none⟩ b5) ⟨g, 6, none⟩ b6) ⟨g, 7, none⟩ b7) := k6.trans (keeps_cell h6 7 b7)
  have h8 : Blk (World.setCell (World.setCell (World.setCell (World.setCell (World.setCell (World.setCell (World.setCell (World.setCell (World.setCell w ⟨g, 0, none⟩ b0) ⟨g, 1, none⟩ b1) ⟨g, 2, none⟩ b2) ⟨g, 3, none⟩ b3) ⟨g, 4, none⟩ b4) ⟨g, 5, none⟩ b5) ⟨g, 6, none⟩ b6) ⟨g, 7, none⟩ b7) ⟨g, 8, none⟩ b8) g t #[b0, b1, b2, b3, b4, b5, b6, b7, b8, a9] := h7.set_ 8 b8
  have k8 : KeepsRows t w (World.setCell (World.setCell (World.setCell (World.setCell (World.setCell (World.setCell (World.setCell (World.setCell (World.setCell w ⟨g, 0, none⟩ b0) ⟨g, 1, none⟩ b1) ⟨g, 2, none⟩ b2) ⟨g, 3, none⟩ b3) ⟨g, 4, none⟩ b4) ⟨g, 5, none⟩ b5) ⟨g, 6, none⟩ b6) ⟨g, 7, none⟩ b7) ⟨g, 8, none⟩ b8) := k7.trans (keeps_cell h7 8 b8)
  have h9 : Blk (World.setCell (World.setCell (World.setCell (World.setCell (World.setCell (World.setCell (World.setCell (World.setCell (World.setCell (World.setCell w ⟨g, 0, none⟩ b0) ⟨g, 1, none⟩ b1) ⟨g, 2, none⟩ b2) ⟨g, 3, none⟩ b3) ⟨g, 4, none⟩ b4) ⟨g, 5, none⟩ b5) ⟨g, 6, none⟩ b6) ⟨g, 7, none⟩ b7) ⟨g, 8, none⟩ b8) ⟨g, 9, none⟩ b9) g t #[b0, b1, b2, b3, b4, b5, b6, b7, b8, b9] := h8.set_ 9 b9
  have k9 : KeepsRows t w (World.setCell (World.setCell (World.setCell (World.setCell (World.setCell (World.setCell (World.setCell (World.setCell (World.setCell (World.setCell w ⟨g, 0, none⟩ b0) ⟨g, 1, none⟩ b1) ⟨g, 2, none⟩ b2) ⟨g, 3, none⟩ b3) ⟨g, 4, none⟩ b4) ⟨g, 5, none⟩ b5) ⟨g, 6, none⟩ b6) ⟨g, 7, none⟩ b7) ⟨g, 8, none⟩ b8) ⟨g, 9, none⟩ b9) := k8.trans (keeps_cell h8 9 b9)
  exact k9
theorem msg_size : (Tryz.prog.info? 35).map (·.size) = some 10 := by kernel_rfl
theorem one_ten (a b c d e f : Int) (A1 A2 A3 A4 : Option Addr) (n1 n2 n3 n4 c1 c2 c3 c4 : Nat) : (#[.int .i64 a, .int .i64 b, .int .i64 c, .int .i64 d, .int .i64 e, .int .i64 f, .slice A1 n1 c1, .slice A2 n2 c2, .slice A3 n3 c3, .slice A4 n4 c4] : Array Value).all (·.oneCell') = true :=
  all_oneCell_toArray (cs := [.int .i64 a, .int .i64 b, .int .i64 c, .int .i64 d, .int .i64 e, .int .i64 f, .slice A1 n1 c1, .slice A2 n2 c2, .slice A3 n3 c3, .slice A4 n4 c4]) (by intro v hv; simp at hv; rcases hv with rfl | rfl | rfl | rfl | rfl | rfl | rfl | rfl | rfl | rfl <;> rfl)
theorem there_ten {w : World} {g : Nat} {t : TypeId} {a0 a1 a2 a3 a4 a5 a6 a7 a8 a9 : Value} (h : Blk w g t #[a0, a1, a2, a3, a4, a5, a6, a7, a8, a9]) : w.there g 0 10 := blk_there h
theorem Ms.Own.nil (w : World) (b : Nat) (a1 a2 a3 a4 a5 a6 : Int) : Ms.Own w b ⟨⟨a1, a2, a3, a4, a5, a6, [], [], [], []⟩, none, 0, none, 0, none, 0, none, 0⟩ := ⟨World.ownsRow_nil _ _ _ _, World.ownsRow_nil _ _ _ _, OwnCerts.nil _ _, OwnParts.none0 _ _⟩
theorem Hold.new {w w1 : World} (hb : Below (w.heap.size + 1) (w.alloc (.cells #[.int .i64 0, .int .i64 0, .int .i64 0, .int .i64 0, .int .i64 0, .int .i64 0, .slice none 0 0, .slice none 0 0, .slice none 0 0, .slice none 0 0] 35)) w1) (m : Mg) (h1 : m.bt = []) (h2 : m.vs = []) (h3 : m.cs = []) (h4 : m.ps = []) :
    Hold w (w1.setCells w.heap.size 0 [.int .i64 m.kd, .int .i64 m.fr, .int .i64 m.vw, .int .i64 m.ins, .int .i64 m.sq, .int .i64 m.rs, .slice none 0 0, .slice none 0 0, .slice none 0 0, .slice none 0 0]) ⟨m, none, 0, none, 0, none, 0, none, 0⟩ := by
  have hblk : Blk w1 w.heap.size 35 #[.int .i64 0, .int .i64 0, .int .i64 0, .int .i64 0, .int .i64 0, .int .i64 0, .slice none 0 0, .slice none 0 0, .slice none 0 0, .slice none 0 0] := (Blk.new w _ _).below hb (Nat.lt_succ_self _)
  have hlow : Below w.heap.size w w1 := ((Below.refl _ w).alloc (Nat.le_refl _) _).trans (hb.mono (Nat.le_succ _))
  obtain ⟨a1, a2, a3, a4, a5, a6, b1, b2, b3, b4⟩ := m
  simp only at h1 h2 h3 h4
  subst h1; subst h2; subst h3; subst h4
  exact ⟨below_ten hlow _ _ _ _ _ _ _ _ _ _, blk_ten hblk _ _ _ _ _ _ _ _ _ _, Ms.Own.nil _ _ _ _ _ _ _ _⟩
theorem Hold.bt {w w1 w2 : World} {x : Ms} {b : Nat} (h : Hold w w1 x) (hb : Below w1.heap.size w1 w2) {l : List Rq} {A : Option Addr} {c : Nat} (ho : w2.ownsRow b 106 6 (.slice A l.length c) l.length (reqCells l)) (hb2 : w.heap.size + 1 ≤ b) :
    Hold w (w2.setCell ⟨w.heap.size, 6, none⟩ (.slice A l.length c)) { x with m := { x.m with bt := l }, A1 := A, c1 := c } := by
  have hb1 := h.blk.below hb h.blk.lt
  have hk := keeps_cell hb1 6 (.slice A l.length c)
  have ow := (h.own.below hb).keeps hk
  exact ⟨(h.low.trans (hb.mono h.low.size)).setCell (p := ⟨w.heap.size, 6, none⟩) (Nat.le_refl _) _, hb1.set_ 6 _, ⟨hk _ _ _ _ _ _ (by decide) (own_base ho hb2), ow.vs, ow.cs, ow.ps⟩⟩
theorem Hold.vs {w w1 w2 : World} {x : Ms} {b : Nat} (h : Hold w w1 x) (hb : Below w1.heap.size w1 w2) {l : List Vt} {A : Option Addr} {c : Nat} (ho : w2.ownsRow b 39 2 (.slice A l.length c) l.length (voteCells l)) (hb2 : w.heap.size + 1 ≤ b) :
    Hold w (w2.setCell ⟨w.heap.size, 7, none⟩ (.slice A l.length c)) { x with m := { x.m with vs := l }, A2 := A, c2 := c } := by
  have hb1 := h.blk.below hb h.blk.lt
  have hk := keeps_cell hb1 7 (.slice A l.length c)
  have ow := (h.own.below hb).keeps hk
  exact ⟨(h.low.trans (hb.mono h.low.size)).setCell (p := ⟨w.heap.size, 7, none⟩) (Nat.le_refl _) _, hb1.set_ 7 _, ⟨ow.bt, hk _ _ _ _ _ _ (by decide) (own_base ho hb2), ow.cs, ow.ps⟩⟩
theorem Hold.cs {w w1 w2 : World} {x : Ms} {b : Nat} (h : Hold w w1 x) (hb : Below w1.heap.size w1 w2) {l : List Ct} {A : Option Addr} {c : Nat} (ho : OwnCerts w2 b (.slice A l.length c) l) (hb2 : w.heap.size + 1 ≤ b) :
    Hold w (w2.setCell ⟨w.heap.size, 8, none⟩ (.slice A l.length c)) { x with m := { x.m with cs := l }, A3 := A, c3 := c } := by
  have hb1 := h.blk.below hb h.blk.lt
  have hk := keeps_cell hb1 8 (.slice A l.length c)
  have ow := (h.own.below hb).keeps hk
  exact ⟨(h.low.trans (hb.mono h.low.size)).setCell (p := ⟨w.heap.size, 8, none⟩) (Nat.le_refl _) _, hb1.set_ 8 _, ⟨ow.bt, ow.vs, (ho.base hb2).keeps hk (by decide) (by decide) (by decide), ow.ps⟩⟩
theorem Hold.ps {w w1 w2 : World} {x : Ms} {b : Nat} (h : Hold w w1 x) (hb : Below w1.heap.size w1 w2) {l : List Pt} {A : Option Addr} {c : Nat} (ho : OwnParts w2 b (.slice A l.length c) l) (hb2 : w.heap.size + 1 ≤ b) :
    Hold w (w2.setCell ⟨w.heap.size, 9, none⟩ (.slice A l.length c)) { x with m := { x.m with ps := l }, A4 := A, c4 := c } := by
  have hb1 := h.blk.below hb h.blk.lt
  have hk := keeps_cell hb1 9 (.slice A l.length c)
  have ow := (h.own.below hb).keeps hk
  exact ⟨(h.low.trans (hb.mono h.low.size)).setCell (p := ⟨w.heap.size, 9, none⟩) (Nat.le_refl _) _, hb1.set_ 9 _, ⟨ow.bt, ow.vs, ow.cs, (ho.base hb2).keeps hk (by decide) (by decide) (by decide) (by decide)⟩⟩
theorem Hold.zero {w W : World} {x : Ms} (h : Hold w W x) : Below w.heap.size w (W.setCells w.heap.size 0 [.int .i64 0, .int .i64 0, .int .i64 0, .int .i64 0, .int .i64 0, .int .i64 0, .slice none 0 0, .slice none 0 0, .slice none 0 0, .slice none 0 0]) ∧ Blk (W.setCells w.heap.size 0 [.int .i64 0, .int .i64 0, .int .i64 0, .int .i64 0, .int .i64 0, .int .i64 0, .slice none 0 0, .slice none 0 0, .slice none 0 0, .slice none 0 0]) w.heap.size 35 #[.int .i64 0, .int .i64 0, .int .i64 0, .int .i64 0, .int .i64 0, .int .i64 0, .slice none 0 0, .slice none 0 0, .slice none 0 0, .slice none 0 0] :=
  ⟨below_ten h.low _ _ _ _ _ _ _ _ _ _, blk_ten h.blk _ _ _ _ _ _ _ _ _ _⟩
theorem Hold.again {w W : World} {x : Ms} (h : Hold w W x) : Hold w (W.setCells w.heap.size 0 [.int .i64 x.m.kd, .int .i64 x.m.fr, .int .i64 x.m.vw, .int .i64 x.m.ins, .int .i64 x.m.sq, .int .i64 x.m.rs, .slice x.A1 x.m.bt.length x.c1, .slice x.A2 x.m.vs.length x.c2, .slice x.A3 x.m.cs.length x.c3, .slice x.A4 x.m.ps.length x.c4]) x :=
  ⟨below_ten h.low _ _ _ _ _ _ _ _ _ _, blk_ten h.blk _ _ _ _ _ _ _ _ _ _, h.own.keeps (keeps_ten h.blk _ _ _ _ _ _ _ _ _ _)⟩
theorem take_head_is {A : Option Addr} {cap n : Nat} {zs : List Int} {B : Nat} (hn : zs.length = n) (hl : n ≤ 9223372036854775806) (hz : ∀ z ∈ zs, 0 ≤ z ∧ z ≤ 255) (w : World) (hB : B ≤ w.heap.size) (hh : Has w B A (u8s zs)) :
    Calls Tryz.prog 29 #[.slice A n cap] w (HeadTaken zs w) := by subst hn; exact take_head A cap zs B hl hz w hB hh
theorem take_batch_is {A : Option Addr} {cap n : Nat} {zs : List Int} {B : Nat} (hn : zs.length = n) (hl : n ≤ 9223372036854775806) (hz : ∀ z ∈ zs, 0 ≤ z ∧ z ≤ 255) (i : Int) (hi : i ≤ 9223372036854775807) (w : World) (hB : B ≤ w.heap.size) (hh : Has w B A (u8s zs)) :
    Calls Tryz.prog 30 #[.slice A n cap, .int .i64 i] w (BatchTaken zs i w) := by subst hn; exact take_batch A cap zs B i hl hi hz w hB hh
theorem take_votes_is {A : Option Addr} {cap n : Nat} {zs : List Int} {B : Nat} (hn : zs.length = n) (hl : n ≤ 9223372036854775806) (hz : ∀ z ∈ zs, 0 ≤ z ∧ z ≤ 255) (i : Int) (hi : i ≤ 9223372036854775807) (w : World) (hB : B ≤ w.heap.size) (hh : Has w B A (u8s zs)) :
    Calls Tryz.prog 31 #[.slice A n cap, .int .i64 i] w (VotesTaken zs i w) := by subst hn; exact take_votes A cap zs B i hl hi hz w hB hh
theorem take_certs_is {A : Option Addr} {cap n : Nat} {zs : List Int} {B : Nat} (hn : zs.length = n) (hl : n ≤ 9223372036854775806) (hz : ∀ z ∈ zs, 0 ≤ z ∧ z ≤ 255) (i : Int) (hi : i ≤ 9223372036854775807) (w : World) (hB : B ≤ w.heap.size) (hh : Has w B A (u8s zs)) :
    Calls Tryz.prog 32 #[.slice A n cap, .int .i64 i] w (CertsTaken zs i w) := by subst hn; exact take_certs A cap zs B i hl hi hz w hB hh
theorem take_parts_is {A : Option Addr} {cap n : Nat} {zs : List Int} {B : Nat} (hn : zs.length = n) (hl : n ≤ 9223372036854775806) (hz : ∀ z ∈ zs, 0 ≤ z ∧ z ≤ 255) (i : Int) (hi : i ≤ 9223372036854775807) (w : World) (hB : B ≤ w.heap.size) (hh : Has w B A (u8s zs)) :
    Calls Tryz.prog 33 #[.slice A n cap, .int .i64 i] w (PartsTaken zs i w) := by subst hn; exact take_parts A cap zs B i hl hi hz w hB hh
set_option maxHeartbeats 8000000 in
set_option maxRecDepth 100000 in
theorem parse_any (A : Option Addr) (cap : Nat) (zs : List Int) (B : Nat) (n : Nat) (hn : zs.length = n) (hl : n ≤ 9223372036854775806) (hz : ∀ z ∈ zs, 0 ≤ z ∧ z ≤ 255) (w : World) (hB : B ≤ w.heap.size) (hh : Has w B A (u8s zs)) :
    Calls Tryz.prog 19 #[.slice A n cap] w (MsgTaken (parseM zs) w) := by
  have hb0 : Below w.heap.size w (w.alloc (.cells #[.int .i64 0, .int .i64 0, .int .i64 0, .int .i64 0, .int .i64 0, .int .i64 0, .slice none 0 0, .slice none 0 0, .slice none 0 0, .slice none 0 0] 35)) := (Below.refl _ w).alloc (Nat.le_refl _) _
  have HB0 := Lib.hid hb0
  have HBl0 := Lib.hid (Blk.new w 35 #[.int .i64 0, .int .i64 0, .int .i64 0, .int .i64 0, .int .i64 0, .int .i64 0, .slice none 0 0, .slice none 0 0, .slice none 0 0, .slice none 0 0])
  have HH := Lib.hid hh
  have HL := Lib.hid hn
  have KH := Lib.hid (fun w hB hh => take_head_is (A := A) (cap := cap) (B := B) hn hl hz w hB hh)
  have K6 := Lib.hid (fun i hi w hB hh => take_batch_is (A := A) (cap := cap) (B := B) hn hl hz i hi w hB hh)
  have K7 := Lib.hid (fun i hi w hB hh => take_votes_is (A := A) (cap := cap) (B := B) hn hl hz i hi w hB hh)
  have K8 := Lib.hid (fun i hi w hB hh => take_certs_is (A := A) (cap := cap) (B := B) hn hl hz i hi w hB hh)
  have K9 := Lib.hid (fun i hi w hB hh => take_parts_is (A := A) (cap := cap) (B := B) hn hl hz i hi w hB hh)
  clear hh hz hn hb0
  by_cases hlen : 65536 < n
  · have HR := Lib.hid (show parseM zs = none from if_neg (by rw [HL.out]; omega))
    clear K6 K7 K8 K9 KH
    go_enter Tryz.func19, Tryz.ntmps19
    go_wp2
    refine wp_scope_hops 8 (fun F HF => ?_)
    go_wp2
    go_step3
    go_wp2
    refine ⟨_, by rw [HF.out]; rfl, ?_⟩
    go_wp2
    exact bodyPost_ret (v := .tuple #[.agg #[.int .i64 0, .int .i64 0, .int .i64 0, .int .i64 0, .int .i64 0, .int .i64 0, .slice none 0 0, .slice none 0 0, .slice none 0 0, .slice none 0 0], .bool false]) (by simp [results, Tryz.results19, go_sem]) rfl ⟨HB0.out, Or.inr ⟨HR.out, rfl⟩⟩
  · have hle : n ≤ 65536 := by omega
    have HP := Lib.hid (show parseM zs = (match tkMsg zs 0 with | some (m, j) => if j = zs.length then some m else none | none => none) from if_pos (by rw [HL.out]; exact hle))
    rw [tkMsg_head] at HP
    clear hlen
    go_enter Tryz.func19, Tryz.ntmps19
    go_wp2
    refine wp_scope_hops 8 (fun F HF => ?_)
    go_wp2_with fail
    refine (KH.out _ (Nat.le_trans hB HB0.out.size) (HH.out.below (HB0.out.mono hB) (Nat.le_refl _))).mono ?_
    rintro e w1 ⟨hb, hcase⟩
    have HTh := Lib.hid (there_ten (HBl0.out.below hb HBl0.out.lt))
    rw [show (w.alloc (.cells #[.int .i64 0, .int .i64 0, .int .i64 0, .int .i64 0, .int .i64 0, .int .i64 0, .slice none 0 0, .slice none 0 0, .slice none 0 0, .slice none 0 0] 35)).heap.size = w.heap.size + 1 by simp] at hb
    have HB1 := Lib.hid hb
    clear hb
    rcases hcase with ⟨m, k, h1, hk, e1, e2, e3, e4, rfl⟩ | ⟨h1, rfl⟩
    case inr =>
      have HR := Lib.hid (show parseM zs = none by rw [HP.out, h1]; rfl)
      clear h1 KH K6 K7 K8 K9 HP
      have hhW1 : Hold w (w1.setCells w.heap.size 0 [.int .i64 0, .int .i64 0, .int .i64 0, .int .i64 0, .int .i64 0, .int .i64 0, .slice none 0 0, .slice none 0 0, .slice none 0 0, .slice none 0 0]) ⟨⟨0, 0, 0, 0, 0, 0, [], [], [], []⟩, none, 0, none, 0, none, 0, none, 0⟩ := Hold.new HB1.out ⟨0, 0, 0, 0, 0, 0, [], [], [], []⟩ rfl rfl rfl rfl
      obtain ⟨W1, hwW1⟩ : ∃ W, w1.setCells w.heap.size 0 [.int .i64 0, .int .i64 0, .int .i64 0, .int .i64 0, .int .i64 0, .int .i64 0, .slice none 0 0, .slice none 0 0, .slice none 0 0, .slice none 0 0] = W := ⟨_, rfl⟩
      rw [hwW1] at hhW1
      have HDW1 := Lib.hid hhW1
      have HWz := Lib.hid hwW1
      clear hhW1 hwW1
      go_wp2_with (refine wpList_store_mid rfl 35 (.tmp 2) (.tmp 11) rfl w.heap.size 0 #[.int .i64 0, .int .i64 0, .int .i64 0, .int .i64 0, .int .i64 0, .int .i64 0, .slice none 0 0, .slice none 0 0, .slice none 0 0, .slice none 0 0] rfl rfl HTh.out msg_size (one_ten 0 0 0 0 0 0 none none none none 0 0 0 0 0 0 0 0) ?_; rw [HWz.out])
      go_step3
      go_wp2
      clear HTh HWz
      have HTh := Lib.hid (there_ten HDW1.out.blk)
      obtain ⟨wz, hwz⟩ : ∃ wz, W1.setCells w.heap.size 0 [.int .i64 0, .int .i64 0, .int .i64 0, .int .i64 0, .int .i64 0, .int .i64 0, .slice none 0 0, .slice none 0 0, .slice none 0 0, .slice none 0 0] = wz := ⟨_, rfl⟩
      have hz2 := HDW1.out.zero
      rw [hwz] at hz2
      have HWz := Lib.hid hwz
      have HBz := Lib.hid hz2.1
      have z0 : wz.cell? ⟨w.heap.size, 0, none⟩ = some (.int .i64 0) := hz2.2.cell 0
      have z1 : wz.cell? ⟨w.heap.size, 1, none⟩ = some (.int .i64 0) := hz2.2.cell 1
      have z2 : wz.cell? ⟨w.heap.size, 2, none⟩ = some (.int .i64 0) := hz2.2.cell 2
      have z3 : wz.cell? ⟨w.heap.size, 3, none⟩ = some (.int .i64 0) := hz2.2.cell 3
      have z4 : wz.cell? ⟨w.heap.size, 4, none⟩ = some (.int .i64 0) := hz2.2.cell 4
      have z5 : wz.cell? ⟨w.heap.size, 5, none⟩ = some (.int .i64 0) := hz2.2.cell 5
      have z6 : wz.cell? ⟨w.heap.size, 6, none⟩ = some (.slice none 0 0) := hz2.2.cell 6
      have z7 : wz.cell? ⟨w.heap.size, 7, none⟩ = some (.slice none 0 0) := hz2.2.cell 7
      have z8 : wz.cell? ⟨w.heap.size, 8, none⟩ = some (.slice none 0 0) := hz2.2.cell 8
      have z9 : wz.cell? ⟨w.heap.size, 9, none⟩ = some (.slice none 0 0) := hz2.2.cell 9
      clear hwz hz2
      refine ⟨_, by rw [HF.out]; rfl, ?_⟩
      go_wp2_with (refine wpList_store_mid rfl 35 (.tmp 2) (.tmp 56) rfl w.heap.size 0 #[.int .i64 0, .int .i64 0, .int .i64 0, .int .i64 0, .int .i64 0, .int .i64 0, .slice none 0 0, .slice none 0 0, .slice none 0 0, .slice none 0 0] rfl rfl HTh.out msg_size (one_ten 0 0 0 0 0 0 none none none none 0 0 0 0 0 0 0 0) ?_; rw [HWz.out])
      refine bodyPost_ret (v := .tuple #[.agg #[.int .i64 0, .int .i64 0, .int .i64 0, .int .i64 0, .int .i64 0, .int .i64 0, .slice none 0 0, .slice none 0 0, .slice none 0 0, .slice none 0 0], .bool false]) ?_ rfl ⟨HBz.out, Or.inr ⟨HR.out, rfl⟩⟩
      simp [results, Tryz.results19, go_sem, z0, z1, z2, z3, z4, z5, z6, z7, z8, z9]
    have H1 := Lib.hid h1
    rw [HL.out] at hk
    clear h1 KH
    have hhW1 : Hold w (w1.setCells w.heap.size 0 [.int .i64 m.kd, .int .i64 m.fr, .int .i64 m.vw, .int .i64 m.ins, .int .i64 m.sq, .int .i64 m.rs, .slice none 0 0, .slice none 0 0, .slice none 0 0, .slice none 0 0]) ⟨⟨m.kd, m.fr, m.vw, m.ins, m.sq, m.rs, [], [], [], []⟩, none, 0, none, 0, none, 0, none, 0⟩ := by have := Hold.new HB1.out m e1 e2 e3 e4; obtain ⟨m1, m2, m3, m4, m5, m6, m7, m8, m9, m10⟩ := m; simp only at e1 e2 e3 e4; subst e1; subst e2; subst e3; subst e4; exact this
    obtain ⟨W1, hwW1⟩ : ∃ W, w1.setCells w.heap.size 0 [.int .i64 m.kd, .int .i64 m.fr, .int .i64 m.vw, .int .i64 m.ins, .int .i64 m.sq, .int .i64 m.rs, .slice none 0 0, .slice none 0 0, .slice none 0 0, .slice none 0 0] = W := ⟨_, rfl⟩
    rw [hwW1] at hhW1
    have HDW1 := Lib.hid hhW1
    have HWz := Lib.hid hwW1
    clear hhW1 hwW1
    clear e1 e2 e3 e4
    go_wp2_with (refine wpList_store_mid rfl 35 (.tmp 2) (.tmp 11) rfl w.heap.size 0 #[.int .i64 m.kd, .int .i64 m.fr, .int .i64 m.vw, .int .i64 m.ins, .int .i64 m.sq, .int .i64 m.rs, .slice none 0 0, .slice none 0 0, .slice none 0 0, .slice none 0 0] rfl rfl HTh.out msg_size (one_ten _ _ _ _ _ _ none none none none 0 0 0 0 0 0 0 0) ?_; rw [HWz.out])
    go_step3
    go_wp2
    clear HTh HWz HB1
    refine ⟨_, by rw [HF.out]; rfl, ?_⟩
    have hS := HDW1.out.low.size
    have hlt := HDW1.out.blk.lt
    go_wp2_with fail
    refine (K6.out k (by omega) _ (Nat.le_trans hB hS) (HH.out.below (HDW1.out.low.mono hB) (Nat.le_refl _))).mono ?_
    rintro e w2 ⟨hb, hcase⟩
    have hblk := HDW1.out.blk.below hb hlt
    have cc := hblk.cell 6
    simp only [List.getElem?_toArray, List.getElem?_cons_zero, List.getElem?_cons_succ] at cc
    have ff := hblk.frozen 6
    have HB1 := Lib.hid hb
    clear hb hblk
    rcases hcase with ⟨l0, k0, A0, c0, h1, hk0, hl0, rfl, ho⟩ | ⟨h1, rfl⟩
    case inr =>
      have HR := Lib.hid (show parseM zs = none by rw [HP.out]; simp [H1.out, h1])
      clear h1 K6 K7 K8 K9 HP
      have hhV : Hold w (w2.setCell ⟨w.heap.size, 6, none⟩ (.slice none 0 0)) ⟨⟨m.kd, m.fr, m.vw, m.ins, m.sq, m.rs, [], [], [], []⟩, none, 0, none, 0, none, 0, none, 0⟩ := HDW1.out.bt HB1.out (l := []) (A := none) (c := 0) (b := w.heap.size + 1) (World.ownsRow_nil _ _ _ _) (Nat.le_refl _)
      obtain ⟨V, hwV⟩ : ∃ W, w2.setCell ⟨w.heap.size, 6, none⟩ (.slice none 0 0) = W := ⟨_, rfl⟩
      rw [hwV] at hhV
      have HDV := Lib.hid hhV
      have HWz := Lib.hid hwV
      clear hhV hwV
      go_wp2_with fail
      rw [HWz.out]
      go_step3
      go_wp2
      clear HWz cc ff
      have HTh := Lib.hid (there_ten HDV.out.blk)
      obtain ⟨wz, hwz⟩ : ∃ wz, V.setCells w.heap.size 0 [.int .i64 0, .int .i64 0, .int .i64 0, .int .i64 0, .int .i64 0, .int .i64 0, .slice none 0 0, .slice none 0 0, .slice none 0 0, .slice none 0 0] = wz := ⟨_, rfl⟩
      have hz2 := HDV.out.zero
      rw [hwz] at hz2
      have HWz := Lib.hid hwz
      have HBz := Lib.hid hz2.1
      have z0 : wz.cell? ⟨w.heap.size, 0, none⟩ = some (.int .i64 0) := hz2.2.cell 0
      have z1 : wz.cell? ⟨w.heap.size, 1, none⟩ = some (.int .i64 0) := hz2.2.cell 1
      have z2 : wz.cell? ⟨w.heap.size, 2, none⟩ = some (.int .i64 0) := hz2.2.cell 2
      have z3 : wz.cell? ⟨w.heap.size, 3, none⟩ = some (.int .i64 0) := hz2.2.cell 3
      have z4 : wz.cell? ⟨w.heap.size, 4, none⟩ = some (.int .i64 0) := hz2.2.cell 4
      have z5 : wz.cell? ⟨w.heap.size, 5, none⟩ = some (.int .i64 0) := hz2.2.cell 5
      have z6 : wz.cell? ⟨w.heap.size, 6, none⟩ = some (.slice none 0 0) := hz2.2.cell 6
      have z7 : wz.cell? ⟨w.heap.size, 7, none⟩ = some (.slice none 0 0) := hz2.2.cell 7
      have z8 : wz.cell? ⟨w.heap.size, 8, none⟩ = some (.slice none 0 0) := hz2.2.cell 8
      have z9 : wz.cell? ⟨w.heap.size, 9, none⟩ = some (.slice none 0 0) := hz2.2.cell 9
      clear hwz hz2
      refine ⟨_, by rw [HF.out]; rfl, ?_⟩
      go_wp2_with (refine wpList_store_mid rfl 35 (.tmp 2) (.tmp 56) rfl w.heap.size 0 #[.int .i64 0, .int .i64 0, .int .i64 0, .int .i64 0, .int .i64 0, .int .i64 0, .slice none 0 0, .slice none 0 0, .slice none 0 0, .slice none 0 0] rfl rfl HTh.out msg_size (one_ten 0 0 0 0 0 0 none none none none 0 0 0 0 0 0 0 0) ?_; rw [HWz.out])
      refine bodyPost_ret (v := .tuple #[.agg #[.int .i64 0, .int .i64 0, .int .i64 0, .int .i64 0, .int .i64 0, .int .i64 0, .slice none 0 0, .slice none 0 0, .slice none 0 0, .slice none 0 0], .bool false]) ?_ rfl ⟨HBz.out, Or.inr ⟨HR.out, rfl⟩⟩
      simp [results, Tryz.results19, go_sem, z0, z1, z2, z3, z4, z5, z6, z7, z8, z9]
    rw [HL.out] at hk0
    have HQ0 := Lib.hid h1
    have hhW2 : Hold w (w2.setCell ⟨w.heap.size, 6, none⟩ (.slice A0 l0.length c0)) ⟨⟨m.kd, m.fr, m.vw, m.ins, m.sq, m.rs, l0, [], [], []⟩, A0, c0, none, 0, none, 0, none, 0⟩ := HDW1.out.bt HB1.out ho hlt
    obtain ⟨W2, hwW2⟩ : ∃ W, w2.setCell ⟨w.heap.size, 6, none⟩ (.slice A0 l0.length c0) = W := ⟨_, rfl⟩
    rw [hwW2] at hhW2
    have HDW2 := Lib.hid hhW2
    have HWz := Lib.hid hwW2
    clear hhW2 hwW2
    clear h1 ho hl0 K6
    go_wp2_with fail
    rw [HWz.out]
    go_step3
    go_wp2
    clear HWz cc ff HB1 HDW1 hS hlt
    refine ⟨_, by rw [HF.out]; rfl, ?_⟩
    have hS := HDW2.out.low.size
    have hlt := HDW2.out.blk.lt
    go_wp2_with fail
    refine (K7.out k0 (by omega) _ (Nat.le_trans hB hS) (HH.out.below (HDW2.out.low.mono hB) (Nat.le_refl _))).mono ?_
    rintro e w3 ⟨hb, hcase⟩
    have hblk := HDW2.out.blk.below hb hlt
    have cc := hblk.cell 7
    simp only [List.getElem?_toArray, List.getElem?_cons_zero, List.getElem?_cons_succ] at cc
    have ff := hblk.frozen 7
    have HB1 := Lib.hid hb
    clear hb hblk
    rcases hcase with ⟨l1, k1, A1, c1, h1, hk1, hl1, rfl, ho⟩ | ⟨h1, rfl⟩
    case inr =>
      have HR := Lib.hid (show parseM zs = none by rw [HP.out]; simp [H1.out, HQ0.out, h1])
      clear h1 K7 K8 K9 HP
      have hhV : Hold w (w3.setCell ⟨w.heap.size, 7, none⟩ (.slice none 0 0)) ⟨⟨m.kd, m.fr, m.vw, m.ins, m.sq, m.rs, l0, [], [], []⟩, A0, c0, none, 0, none, 0, none, 0⟩ := HDW2.out.vs HB1.out (l := []) (A := none) (c := 0) (b := w.heap.size + 1) (World.ownsRow_nil _ _ _ _) (Nat.le_refl _)
      obtain ⟨V, hwV⟩ : ∃ W, w3.setCell ⟨w.heap.size, 7, none⟩ (.slice none 0 0) = W := ⟨_, rfl⟩
      rw [hwV] at hhV
      have HDV := Lib.hid hhV
      have HWz := Lib.hid hwV
      clear hhV hwV
      go_wp2_with fail
      rw [HWz.out]
      go_step3
      go_wp2
      clear HWz cc ff
      have HTh := Lib.hid (there_ten HDV.out.blk)
      obtain ⟨wz, hwz⟩ : ∃ wz, V.setCells w.heap.size 0 [.int .i64 0, .int .i64 0, .int .i64 0, .int .i64 0, .int .i64 0, .int .i64 0, .slice none 0 0, .slice none 0 0, .slice none 0 0, .slice none 0 0] = wz := ⟨_, rfl⟩
      have hz2 := HDV.out.zero
      rw [hwz] at hz2
      have HWz := Lib.hid hwz
      have HBz := Lib.hid hz2.1
      have z0 : wz.cell? ⟨w.heap.size, 0, none⟩ = some (.int .i64 0) := hz2.2.cell 0
      have z1 : wz.cell? ⟨w.heap.size, 1, none⟩ = some (.int .i64 0) := hz2.2.cell 1
      have z2 : wz.cell? ⟨w.heap.size, 2, none⟩ = some (.int .i64 0) := hz2.2.cell 2
      have z3 : wz.cell? ⟨w.heap.size, 3, none⟩ = some (.int .i64 0) := hz2.2.cell 3
      have z4 : wz.cell? ⟨w.heap.size, 4, none⟩ = some (.int .i64 0) := hz2.2.cell 4
      have z5 : wz.cell? ⟨w.heap.size, 5, none⟩ = some (.int .i64 0) := hz2.2.cell 5
      have z6 : wz.cell? ⟨w.heap.size, 6, none⟩ = some (.slice none 0 0) := hz2.2.cell 6
      have z7 : wz.cell? ⟨w.heap.size, 7, none⟩ = some (.slice none 0 0) := hz2.2.cell 7
      have z8 : wz.cell? ⟨w.heap.size, 8, none⟩ = some (.slice none 0 0) := hz2.2.cell 8
      have z9 : wz.cell? ⟨w.heap.size, 9, none⟩ = some (.slice none 0 0) := hz2.2.cell 9
      clear hwz hz2
      refine ⟨_, by rw [HF.out]; rfl, ?_⟩
      go_wp2_with (refine wpList_store_mid rfl 35 (.tmp 2) (.tmp 56) rfl w.heap.size 0 #[.int .i64 0, .int .i64 0, .int .i64 0, .int .i64 0, .int .i64 0, .int .i64 0, .slice none 0 0, .slice none 0 0, .slice none 0 0, .slice none 0 0] rfl rfl HTh.out msg_size (one_ten 0 0 0 0 0 0 none none none none 0 0 0 0 0 0 0 0) ?_; rw [HWz.out])
      refine bodyPost_ret (v := .tuple #[.agg #[.int .i64 0, .int .i64 0, .int .i64 0, .int .i64 0, .int .i64 0, .int .i64 0, .slice none 0 0, .slice none 0 0, .slice none 0 0, .slice none 0 0], .bool false]) ?_ rfl ⟨HBz.out, Or.inr ⟨HR.out, rfl⟩⟩
      simp [results, Tryz.results19, go_sem, z0, z1, z2, z3, z4, z5, z6, z7, z8, z9]
    rw [HL.out] at hk1
    have HQ1 := Lib.hid h1
    have hhW3 : Hold w (w3.setCell ⟨w.heap.size, 7, none⟩ (.slice A1 l1.length c1)) ⟨⟨m.kd, m.fr, m.vw, m.ins, m.sq, m.rs, l0, l1, [], []⟩, A0, c0, A1, c1, none, 0, none, 0⟩ := HDW2.out.vs HB1.out ho hlt
    obtain ⟨W3, hwW3⟩ : ∃ W, w3.setCell ⟨w.heap.size, 7, none⟩ (.slice A1 l1.length c1) = W := ⟨_, rfl⟩
    rw [hwW3] at hhW3
    have HDW3 := Lib.hid hhW3
    have HWz := Lib.hid hwW3
    clear hhW3 hwW3
    clear h1 ho hl1 K7
    go_wp2_with fail
    rw [HWz.out]
    go_step3
    go_wp2
    clear HWz cc ff HB1 HDW2 hS hlt
    refine ⟨_, by rw [HF.out]; rfl, ?_⟩
    have hS := HDW3.out.low.size
    have hlt := HDW3.out.blk.lt
    go_wp2_with fail
    refine (K8.out k1 (by omega) _ (Nat.le_trans hB hS) (HH.out.below (HDW3.out.low.mono hB) (Nat.le_refl _))).mono ?_
    rintro e w4 ⟨hb, hcase⟩
    have hblk := HDW3.out.blk.below hb hlt
    have cc := hblk.cell 8
    simp only [List.getElem?_toArray, List.getElem?_cons_zero, List.getElem?_cons_succ] at cc
    have ff := hblk.frozen 8
    have HB1 := Lib.hid hb
    clear hb hblk
    rcases hcase with ⟨l2, k2, A2, c2, h1, hk2, hl2, rfl, ho⟩ | ⟨h1, rfl⟩
    case inr =>
      have HR := Lib.hid (show parseM zs = none by rw [HP.out]; simp [H1.out, HQ0.out, HQ1.out, h1])
      clear h1 K8 K9 HP
      have hhV : Hold w (w4.setCell ⟨w.heap.size, 8, none⟩ (.slice none 0 0)) ⟨⟨m.kd, m.fr, m.vw, m.ins, m.sq, m.rs, l0, l1, [], []⟩, A0, c0, A1, c1, none, 0, none, 0⟩ := HDW3.out.cs HB1.out (l := []) (A := none) (c := 0) (b := w.heap.size + 1) (OwnCerts.nil _ _) (Nat.le_refl _)
      obtain ⟨V, hwV⟩ : ∃ W, w4.setCell ⟨w.heap.size, 8, none⟩ (.slice none 0 0) = W := ⟨_, rfl⟩
      rw [hwV] at hhV
      have HDV := Lib.hid hhV
      have HWz := Lib.hid hwV
      clear hhV hwV
      go_wp2_with fail
      rw [HWz.out]
      go_step3
      go_wp2
      clear HWz cc ff
      have HTh := Lib.hid (there_ten HDV.out.blk)
      obtain ⟨wz, hwz⟩ : ∃ wz, V.setCells w.heap.size 0 [.int .i64 0, .int .i64 0, .int .i64 0, .int .i64 0, .int .i64 0, .int .i64 0, .slice none 0 0, .slice none 0 0, .slice none 0 0, .slice none 0 0] = wz := ⟨_, rfl⟩
      have hz2 := HDV.out.zero
      rw [hwz] at hz2
      have HWz := Lib.hid hwz
      have HBz := Lib.hid hz2.1
      have z0 : wz.cell? ⟨w.heap.size, 0, none⟩ = some (.int .i64 0) := hz2.2.cell 0
      have z1 : wz.cell? ⟨w.heap.size, 1, none⟩ = some (.int .i64 0) := hz2.2.cell 1
      have z2 : wz.cell? ⟨w.heap.size, 2, none⟩ = some (.int .i64 0) := hz2.2.cell 2
      have z3 : wz.cell? ⟨w.heap.size, 3, none⟩ = some (.int .i64 0) := hz2.2.cell 3
      have z4 : wz.cell? ⟨w.heap.size, 4, none⟩ = some (.int .i64 0) := hz2.2.cell 4
      have z5 : wz.cell? ⟨w.heap.size, 5, none⟩ = some (.int .i64 0) := hz2.2.cell 5
      have z6 : wz.cell? ⟨w.heap.size, 6, none⟩ = some (.slice none 0 0) := hz2.2.cell 6
      have z7 : wz.cell? ⟨w.heap.size, 7, none⟩ = some (.slice none 0 0) := hz2.2.cell 7
      have z8 : wz.cell? ⟨w.heap.size, 8, none⟩ = some (.slice none 0 0) := hz2.2.cell 8
      have z9 : wz.cell? ⟨w.heap.size, 9, none⟩ = some (.slice none 0 0) := hz2.2.cell 9
      clear hwz hz2
      refine ⟨_, by rw [HF.out]; rfl, ?_⟩
      go_wp2_with (refine wpList_store_mid rfl 35 (.tmp 2) (.tmp 56) rfl w.heap.size 0 #[.int .i64 0, .int .i64 0, .int .i64 0, .int .i64 0, .int .i64 0, .int .i64 0, .slice none 0 0, .slice none 0 0, .slice none 0 0, .slice none 0 0] rfl rfl HTh.out msg_size (one_ten 0 0 0 0 0 0 none none none none 0 0 0 0 0 0 0 0) ?_; rw [HWz.out])
      refine bodyPost_ret (v := .tuple #[.agg #[.int .i64 0, .int .i64 0, .int .i64 0, .int .i64 0, .int .i64 0, .int .i64 0, .slice none 0 0, .slice none 0 0, .slice none 0 0, .slice none 0 0], .bool false]) ?_ rfl ⟨HBz.out, Or.inr ⟨HR.out, rfl⟩⟩
      simp [results, Tryz.results19, go_sem, z0, z1, z2, z3, z4, z5, z6, z7, z8, z9]
    rw [HL.out] at hk2
    have HQ2 := Lib.hid h1
    have hhW4 : Hold w (w4.setCell ⟨w.heap.size, 8, none⟩ (.slice A2 l2.length c2)) ⟨⟨m.kd, m.fr, m.vw, m.ins, m.sq, m.rs, l0, l1, l2, []⟩, A0, c0, A1, c1, A2, c2, none, 0⟩ := HDW3.out.cs HB1.out ho hlt
    obtain ⟨W4, hwW4⟩ : ∃ W, w4.setCell ⟨w.heap.size, 8, none⟩ (.slice A2 l2.length c2) = W := ⟨_, rfl⟩
    rw [hwW4] at hhW4
    have HDW4 := Lib.hid hhW4
    have HWz := Lib.hid hwW4
    clear hhW4 hwW4
    clear h1 ho hl2 K8
    go_wp2_with fail
    rw [HWz.out]
    go_step3
    go_wp2
    clear HWz cc ff HB1 HDW3 hS hlt
    refine ⟨_, by rw [HF.out]; rfl, ?_⟩
    have hS := HDW4.out.low.size
    have hlt := HDW4.out.blk.lt
    go_wp2_with fail
    refine (K9.out k2 (by omega) _ (Nat.le_trans hB hS) (HH.out.below (HDW4.out.low.mono hB) (Nat.le_refl _))).mono ?_
    rintro e w5 ⟨hb, hcase⟩
    have hblk := HDW4.out.blk.below hb hlt
    have cc := hblk.cell 9
    simp only [List.getElem?_toArray, List.getElem?_cons_zero, List.getElem?_cons_succ] at cc
    have ff := hblk.frozen 9
    have HB1 := Lib.hid hb
    clear hb hblk
    rcases hcase with ⟨l3, k3, A3, c3, h1, hk3, hl3, rfl, ho⟩ | ⟨h1, rfl⟩
    case inr =>
      have HR := Lib.hid (show parseM zs = none by rw [HP.out]; simp [H1.out, HQ0.out, HQ1.out, HQ2.out, h1])
      clear h1 K9 HP
      have hhV : Hold w (w5.setCell ⟨w.heap.size, 9, none⟩ (.slice none 0 0)) ⟨⟨m.kd, m.fr, m.vw, m.ins, m.sq, m.rs, l0, l1, l2, []⟩, A0, c0, A1, c1, A2, c2, none, 0⟩ := HDW4.out.ps HB1.out (l := []) (A := none) (c := 0) (b := w.heap.size + 1) (OwnParts.none0 _ _) (Nat.le_refl _)
      obtain ⟨V, hwV⟩ : ∃ W, w5.setCell ⟨w.heap.size, 9, none⟩ (.slice none 0 0) = W := ⟨_, rfl⟩
      rw [hwV] at hhV
      have HDV := Lib.hid hhV
      have HWz := Lib.hid hwV
      clear hhV hwV
      go_wp2_with fail
      rw [HWz.out]
      go_step3
      go_wp2
      clear HWz cc ff
      have HTh := Lib.hid (there_ten HDV.out.blk)
      obtain ⟨wz, hwz⟩ : ∃ wz, V.setCells w.heap.size 0 [.int .i64 0, .int .i64 0, .int .i64 0, .int .i64 0, .int .i64 0, .int .i64 0, .slice none 0 0, .slice none 0 0, .slice none 0 0, .slice none 0 0] = wz := ⟨_, rfl⟩
      have hz2 := HDV.out.zero
      rw [hwz] at hz2
      have HWz := Lib.hid hwz
      have HBz := Lib.hid hz2.1
      have z0 : wz.cell? ⟨w.heap.size, 0, none⟩ = some (.int .i64 0) := hz2.2.cell 0
      have z1 : wz.cell? ⟨w.heap.size, 1, none⟩ = some (.int .i64 0) := hz2.2.cell 1
      have z2 : wz.cell? ⟨w.heap.size, 2, none⟩ = some (.int .i64 0) := hz2.2.cell 2
      have z3 : wz.cell? ⟨w.heap.size, 3, none⟩ = some (.int .i64 0) := hz2.2.cell 3
      have z4 : wz.cell? ⟨w.heap.size, 4, none⟩ = some (.int .i64 0) := hz2.2.cell 4
      have z5 : wz.cell? ⟨w.heap.size, 5, none⟩ = some (.int .i64 0) := hz2.2.cell 5
      have z6 : wz.cell? ⟨w.heap.size, 6, none⟩ = some (.slice none 0 0) := hz2.2.cell 6
      have z7 : wz.cell? ⟨w.heap.size, 7, none⟩ = some (.slice none 0 0) := hz2.2.cell 7
      have z8 : wz.cell? ⟨w.heap.size, 8, none⟩ = some (.slice none 0 0) := hz2.2.cell 8
      have z9 : wz.cell? ⟨w.heap.size, 9, none⟩ = some (.slice none 0 0) := hz2.2.cell 9
      clear hwz hz2
      refine ⟨_, by rw [HF.out]; rfl, ?_⟩
      go_wp2_with (refine wpList_store_mid rfl 35 (.tmp 2) (.tmp 56) rfl w.heap.size 0 #[.int .i64 0, .int .i64 0, .int .i64 0, .int .i64 0, .int .i64 0, .int .i64 0, .slice none 0 0, .slice none 0 0, .slice none 0 0, .slice none 0 0] rfl rfl HTh.out msg_size (one_ten 0 0 0 0 0 0 none none none none 0 0 0 0 0 0 0 0) ?_; rw [HWz.out])
      refine bodyPost_ret (v := .tuple #[.agg #[.int .i64 0, .int .i64 0, .int .i64 0, .int .i64 0, .int .i64 0, .int .i64 0, .slice none 0 0, .slice none 0 0, .slice none 0 0, .slice none 0 0], .bool false]) ?_ rfl ⟨HBz.out, Or.inr ⟨HR.out, rfl⟩⟩
      simp [results, Tryz.results19, go_sem, z0, z1, z2, z3, z4, z5, z6, z7, z8, z9]
    rw [HL.out] at hk3
    have HQ3 := Lib.hid h1
    have hhW5 : Hold w (w5.setCell ⟨w.heap.size, 9, none⟩ (.slice A3 l3.length c3)) ⟨⟨m.kd, m.fr, m.vw, m.ins, m.sq, m.rs, l0, l1, l2, l3⟩, A0, c0, A1, c1, A2, c2, A3, c3⟩ := HDW4.out.ps HB1.out ho hlt
    obtain ⟨W5, hwW5⟩ : ∃ W, w5.setCell ⟨w.heap.size, 9, none⟩ (.slice A3 l3.length c3) = W := ⟨_, rfl⟩
    rw [hwW5] at hhW5
    have HDW5 := Lib.hid hhW5
    have HWz := Lib.hid hwW5
    clear hhW5 hwW5
    clear h1 ho hl3 K9
    go_wp2_with fail
    rw [HWz.out]
    go_step3
    go_wp2
    clear HWz cc ff HB1 HDW4 hS hlt
    refine ⟨_, by rw [HF.out]; rfl, ?_⟩
    by_cases hend : k3 = n
    · have t0 : ((k3 : Int) == (n : Int)) = true := by simp [hend]
      have HR := Lib.hid (show parseM zs = some ⟨m.kd, m.fr, m.vw, m.ins, m.sq, m.rs, l0, l1, l2, l3⟩ by rw [HP.out]; simp [H1.out, HQ0.out, HQ1.out, HQ2.out, HQ3.out, HL.out, hend])
      have z0 : W5.cell? ⟨w.heap.size, 0, none⟩ = some (.int .i64 m.kd) := HDW5.out.blk.cell 0
      have z1 : W5.cell? ⟨w.heap.size, 1, none⟩ = some (.int .i64 m.fr) := HDW5.out.blk.cell 1
      have z2 : W5.cell? ⟨w.heap.size, 2, none⟩ = some (.int .i64 m.vw) := HDW5.out.blk.cell 2
      have z3 : W5.cell? ⟨w.heap.size, 3, none⟩ = some (.int .i64 m.ins) := HDW5.out.blk.cell 3
      have z4 : W5.cell? ⟨w.heap.size, 4, none⟩ = some (.int .i64 m.sq) := HDW5.out.blk.cell 4
      have z5 : W5.cell? ⟨w.heap.size, 5, none⟩ = some (.int .i64 m.rs) := HDW5.out.blk.cell 5
      have z6 : W5.cell? ⟨w.heap.size, 6, none⟩ = some (.slice A0 l0.length c0) := HDW5.out.blk.cell 6
      have z7 : W5.cell? ⟨w.heap.size, 7, none⟩ = some (.slice A1 l1.length c1) := HDW5.out.blk.cell 7
      have z8 : W5.cell? ⟨w.heap.size, 8, none⟩ = some (.slice A2 l2.length c2) := HDW5.out.blk.cell 8
      have z9 : W5.cell? ⟨w.heap.size, 9, none⟩ = some (.slice A3 l3.length c3) := HDW5.out.blk.cell 9
      have HTh := Lib.hid (there_ten HDW5.out.blk)
      have hag := HDW5.out.again
      obtain ⟨wz, hwz⟩ : ∃ wz, W5.setCells w.heap.size 0 [.int .i64 m.kd, .int .i64 m.fr, .int .i64 m.vw, .int .i64 m.ins, .int .i64 m.sq, .int .i64 m.rs, .slice A0 l0.length c0, .slice A1 l1.length c1, .slice A2 l2.length c2, .slice A3 l3.length c3] = wz := ⟨_, rfl⟩
      have hag : Hold w wz ⟨⟨m.kd, m.fr, m.vw, m.ins, m.sq, m.rs, l0, l1, l2, l3⟩, A0, c0, A1, c1, A2, c2, A3, c3⟩ := by rw [← hwz]; exact hag
      have HWz := Lib.hid hwz
      have y0 : wz.cell? ⟨w.heap.size, 0, none⟩ = some (.int .i64 m.kd) := hag.blk.cell 0
      have y1 : wz.cell? ⟨w.heap.size, 1, none⟩ = some (.int .i64 m.fr) := hag.blk.cell 1
      have y2 : wz.cell? ⟨w.heap.size, 2, none⟩ = some (.int .i64 m.vw) := hag.blk.cell 2
      have y3 : wz.cell? ⟨w.heap.size, 3, none⟩ = some (.int .i64 m.ins) := hag.blk.cell 3
      have y4 : wz.cell? ⟨w.heap.size, 4, none⟩ = some (.int .i64 m.sq) := hag.blk.cell 4
      have y5 : wz.cell? ⟨w.heap.size, 5, none⟩ = some (.int .i64 m.rs) := hag.blk.cell 5
      have y6 : wz.cell? ⟨w.heap.size, 6, none⟩ = some (.slice A0 l0.length c0) := hag.blk.cell 6
      have y7 : wz.cell? ⟨w.heap.size, 7, none⟩ = some (.slice A1 l1.length c1) := hag.blk.cell 7
      have y8 : wz.cell? ⟨w.heap.size, 8, none⟩ = some (.slice A2 l2.length c2) := hag.blk.cell 8
      have y9 : wz.cell? ⟨w.heap.size, 9, none⟩ = some (.slice A3 l3.length c3) := hag.blk.cell 9
      have HAg := Lib.hid hag
      clear hwz hag HP hend
      go_wp2_with (refine wpList_store_mid rfl 35 (.tmp 2) (.tmp 55) rfl w.heap.size 0 #[.int .i64 m.kd, .int .i64 m.fr, .int .i64 m.vw, .int .i64 m.ins, .int .i64 m.sq, .int .i64 m.rs, .slice A0 l0.length c0, .slice A1 l1.length c1, .slice A2 l2.length c2, .slice A3 l3.length c3] rfl rfl HTh.out msg_size (one_ten _ _ _ _ _ _ _ _ _ _ _ _ _ _ _ _ _ _) ?_; rw [HWz.out])
      refine bodyPost_ret (v := .tuple #[.agg #[.int .i64 m.kd, .int .i64 m.fr, .int .i64 m.vw, .int .i64 m.ins, .int .i64 m.sq, .int .i64 m.rs, .slice A0 l0.length c0, .slice A1 l1.length c1, .slice A2 l2.length c2, .slice A3 l3.length c3], .bool true]) ?_ ?_ ?_
      case refine_2 => rfl
      case refine_3 => exact ⟨HAg.out.low, Or.inl ⟨_, HR.out, rfl, HAg.out.own.base (Nat.le_succ _)⟩⟩
      simp [results, Tryz.results19, go_sem, y0, y1, y2, y3, y4, y5, y6, y7, y8, y9]
    · have t0 : ((k3 : Int) == (n : Int)) = false := by simp; omega
      have HR := Lib.hid (show parseM zs = none by rw [HP.out]; simp [H1.out, HQ0.out, HQ1.out, HQ2.out, HQ3.out, HL.out]; omega)
      clear HP hend
      have HTh := Lib.hid (there_ten HDW5.out.blk)
      obtain ⟨wz, hwz⟩ : ∃ wz, W5.setCells w.heap.size 0 [.int .i64 0, .int .i64 0, .int .i64 0, .int .i64 0, .int .i64 0, .int .i64 0, .slice none 0 0, .slice none 0 0, .slice none 0 0, .slice none 0 0] = wz := ⟨_, rfl⟩
      have hz2 := HDW5.out.zero
      rw [hwz] at hz2
      have HWz := Lib.hid hwz
      have HBz := Lib.hid hz2.1
      have z0 : wz.cell? ⟨w.heap.size, 0, none⟩ = some (.int .i64 0) := hz2.2.cell 0
      have z1 : wz.cell? ⟨w.heap.size, 1, none⟩ = some (.int .i64 0) := hz2.2.cell 1
      have z2 : wz.cell? ⟨w.heap.size, 2, none⟩ = some (.int .i64 0) := hz2.2.cell 2
      have z3 : wz.cell? ⟨w.heap.size, 3, none⟩ = some (.int .i64 0) := hz2.2.cell 3
      have z4 : wz.cell? ⟨w.heap.size, 4, none⟩ = some (.int .i64 0) := hz2.2.cell 4
      have z5 : wz.cell? ⟨w.heap.size, 5, none⟩ = some (.int .i64 0) := hz2.2.cell 5
      have z6 : wz.cell? ⟨w.heap.size, 6, none⟩ = some (.slice none 0 0) := hz2.2.cell 6
      have z7 : wz.cell? ⟨w.heap.size, 7, none⟩ = some (.slice none 0 0) := hz2.2.cell 7
      have z8 : wz.cell? ⟨w.heap.size, 8, none⟩ = some (.slice none 0 0) := hz2.2.cell 8
      have z9 : wz.cell? ⟨w.heap.size, 9, none⟩ = some (.slice none 0 0) := hz2.2.cell 9
      clear hwz hz2
      go_wp2_with (refine wpList_store_mid rfl 35 (.tmp 2) (.tmp 56) rfl w.heap.size 0 #[.int .i64 0, .int .i64 0, .int .i64 0, .int .i64 0, .int .i64 0, .int .i64 0, .slice none 0 0, .slice none 0 0, .slice none 0 0, .slice none 0 0] rfl rfl HTh.out msg_size (one_ten 0 0 0 0 0 0 none none none none 0 0 0 0 0 0 0 0) ?_; rw [HWz.out])
      all_goals go_step3
      go_wp2_with (refine wpList_store_mid rfl 35 (.tmp 2) (.tmp 56) rfl w.heap.size 0 #[.int .i64 0, .int .i64 0, .int .i64 0, .int .i64 0, .int .i64 0, .int .i64 0, .slice none 0 0, .slice none 0 0, .slice none 0 0, .slice none 0 0] rfl rfl HTh.out msg_size (one_ten 0 0 0 0 0 0 none none none none 0 0 0 0 0 0 0 0) ?_; rw [HWz.out])
      refine bodyPost_ret (v := .tuple #[.agg #[.int .i64 0, .int .i64 0, .int .i64 0, .int .i64 0, .int .i64 0, .int .i64 0, .slice none 0 0, .slice none 0 0, .slice none 0 0, .slice none 0 0], .bool false]) ?_ rfl ⟨HBz.out, Or.inr ⟨HR.out, rfl⟩⟩
      simp [results, Tryz.results19, go_sem, z0, z1, z2, z3, z4, z5, z6, z7, z8, z9]
end Go.Proofs.YtiffmjfbdidgkaaGreat
