/- The contracts of the document's ReqBody and Compare. -/
import Derived.Test.YtiffmjfbdidgkaaGreatOS1
import Derived.Test.YtiffmjfbdidgkaaGreatOPenCerts
import Derived.Test.YtiffmjfbdidgkaaGreatOS0
import Derived.Deep.QuietTactic
import Derived.BigQuiet
import Derived.StillTailTactics
import Derived.IntWalk
import Derived.Deep.RegionLaw
import Derived.Maps.AppendAt
import Derived.Laws.OwnMore
import Derived.Lib.SliceRun
namespace Go.Proofs.YtiffmjfbdidgkaaGreat
open Go.RowKit

theorem own_down {w : World} {b b' n s : Nat} {e : TypeId} {v : Value} {xs : List Value} (h : w.ownsRow b e s v n xs) (hb : b' ≤ b) : w.ownsRow b' e s v n xs := by
  refine ⟨h.1, ?_⟩
  rcases h.2 with h2 | ⟨g, cap, cur, hv, hg, r⟩
  · exact Or.inl h2
  · exact Or.inr ⟨g, cap, cur, hv, Nat.le_trans hb hg, r⟩
/-- From a later world back. -/
theorem BytesPost.back {ts : List Tok} {w w1 w' : World} {e : Ending} (h : BytesPost ts w1 e w') (hb : Below w.heap.size w w1) : BytesPost ts w e w' := by
  obtain ⟨h1, h2⟩ := h
  refine ⟨hb.trans (h1.mono hb.size), ?_⟩
  rcases h2 with ⟨bs, A, c, k1, k2, k3⟩ | h2
  · exact Or.inl ⟨bs, A, c, k1, k2, own_down k3 hb.size⟩
  · exact Or.inr h2
end Go.Proofs.YtiffmjfbdidgkaaGreat
/- A message as it lies; the contract of the document's Body. -/
namespace Go.Proofs.YtiffmjfbdidgkaaGreat
open Go.RowKit

/-- A message as it lies: it, and where its lists are. -/
structure Ms where
  m : Mg
  A1 : Option Addr
  c1 : Nat
  A2 : Option Addr
  c2 : Nat
  A3 : Option Addr
  c3 : Nat
  A4 : Option Addr
  c4 : Nat
structure Ms.In (w : World) (B : Nat) (x : Ms) : Prop where
  bt : Has w B x.A1 (reqCells x.m.bt)
  vs : Has w B x.A2 (voteCells x.m.vs)
  cs : HasCerts w B x.A3 x.m.cs
  ps : HasParts w B x.A4 x.m.ps
theorem Ms.In.reads {w w' : World} {B B' : Nat} {x : Ms} (h : x.In w B) (hr : Reads B B' w w') : x.In w' B' := ⟨hr _ _ h.bt, hr _ _ h.vs, h.cs.reads hr, h.ps.reads hr⟩
/-- Bytes, or none. -/
def MsgPost (o : Option (List Int)) (w : World) (e : Ending) (w' : World) : Prop :=
  Below w.heap.size w w' ∧ ((∃ bs A c, o = some bs ∧ e = .returned (.tuple #[.slice A bs.length c, .bool true]) ∧ w'.ownsRow w.heap.size 5 1 (.slice A bs.length c) bs.length (u8s bs)) ∨
    (o = none ∧ e = .returned (.tuple #[.slice none 0 0, .bool false])))
theorem pen_more {w1 w2 w3 : World} {B g : Nat} {pre ts : List Tok} {e : Ending} (hk : Kept B g 5 w1 w2) (hp : PenPost w2 B g (6 * pre.length) (penStep (some []) pre) ts e w3) :
    e = .returned (.tuple #[]) ∧ Kept B g 5 w1 w3 ∧ PenHas w3 B g (6 * (pre ++ ts).length) (penStep (some []) (pre ++ ts)) := by
  obtain ⟨h1, h2, h3⟩ := hp
  exact ⟨h1, hk.trans h2, by rw [penStep_app, List.length_append, Nat.mul_add]; exact h3⟩
theorem bodyM_some {m : Mg} {bs : List Int} (h : bytesOf m.toks = some bs) : bodyM m = if bs.length ≤ 65536 then some bs else none := by unfold bodyM; rw [h]
theorem bodyM_none {m : Mg} (h : bytesOf m.toks = none) : bodyM m = none := by unfold bodyM; rw [h]
set_option maxHeartbeats 2000000 in
set_option maxRecDepth 100000 in
theorem rbody_msg (x : Ms) (w : World) (h : x.In w w.heap.size) (hsz : 6 * x.m.toks.length ≤ 70368744177664) :
    Calls Tryz.prog 22 #[.agg #[.int .i64 x.m.kd, .int .i64 x.m.fr, .int .i64 x.m.vw, .int .i64 x.m.ins, .int .i64 x.m.sq, .int .i64 x.m.rs, .slice x.A1 x.m.bt.length x.c1, .slice x.A2 x.m.vs.length x.c2, .slice x.A3 x.m.cs.length x.c3, .slice x.A4 x.m.ps.length x.c4]] w (MsgPost (bodyM x.m) w) := by
  have hsz : 6 * (6 + ((listToks Rq.toks x.m.bt).length + ((listToks Vt.toks x.m.vs).length + ((listToks Ct.toks x.m.cs).length + (listToks Pt.toks x.m.ps).length)))) ≤ 70368744177664 := by
    simp only [Mg.toks, Mg.head, List.length_append, List.length_cons, List.length_nil] at hsz
    omega
  have hb0 : Below w.heap.size w ((w.alloc (.cells #[.int .i64 x.m.kd, .int .i64 x.m.fr, .int .i64 x.m.vw, .int .i64 x.m.ins, .int .i64 x.m.sq, .int .i64 x.m.rs, .slice x.A1 x.m.bt.length x.c1, .slice x.A2 x.m.vs.length x.c2, .slice x.A3 x.m.cs.length x.c3, .slice x.A4 x.m.ps.length x.c4] 35)).alloc (.cells #[.slice none 0 0, .bool false] 85)) := ((Below.refl _ w).alloc (Nat.le_refl _) _).alloc (by simp) _
  have HB0 := Lib.hid hb0
  have HI := Lib.hid ((h.reads (Reads.below hb0 (Nat.le_refl _))).reads (Reads.more (B' := w.heap.size + 1) (Nat.le_succ _)))
  have HH0 := Lib.hid (show PenHas ((w.alloc (.cells #[.int .i64 x.m.kd, .int .i64 x.m.fr, .int .i64 x.m.vw, .int .i64 x.m.ins, .int .i64 x.m.sq, .int .i64 x.m.rs, .slice x.A1 x.m.bt.length x.c1, .slice x.A2 x.m.vs.length x.c2, .slice x.A3 x.m.cs.length x.c3, .slice x.A4 x.m.ps.length x.c4] 35)).alloc (.cells #[.slice none 0 0, .bool false] 85)) (w.heap.size + 1) (w.heap.size + 1) (6 * ([] : List Tok).length) (penStep (some []) []) from by
    have := PenHas.new (w.alloc (.cells #[.int .i64 x.m.kd, .int .i64 x.m.fr, .int .i64 x.m.vw, .int .i64 x.m.ins, .int .i64 x.m.sq, .int .i64 x.m.rs, .slice x.A1 x.m.bt.length x.c1, .slice x.A2 x.m.vs.length x.c2, .slice x.A3 x.m.cs.length x.c3, .slice x.A4 x.m.ps.length x.c4] 35))
    rw [show (w.alloc (.cells #[.int .i64 x.m.kd, .int .i64 x.m.fr, .int .i64 x.m.vw, .int .i64 x.m.ins, .int .i64 x.m.sq, .int .i64 x.m.rs, .slice x.A1 x.m.bt.length x.c1, .slice x.A2 x.m.vs.length x.c2, .slice x.A3 x.m.cs.length x.c3, .slice x.A4 x.m.ps.length x.c4] 35)).heap.size = w.heap.size + 1 by simp] at this
    simpa [penStep_nil] using this)
  have HX0 := Lib.hid (show Blk ((w.alloc (.cells #[.int .i64 x.m.kd, .int .i64 x.m.fr, .int .i64 x.m.vw, .int .i64 x.m.ins, .int .i64 x.m.sq, .int .i64 x.m.rs, .slice x.A1 x.m.bt.length x.c1, .slice x.A2 x.m.vs.length x.c2, .slice x.A3 x.m.cs.length x.c3, .slice x.A4 x.m.ps.length x.c4] 35)).alloc (.cells #[.slice none 0 0, .bool false] 85)) w.heap.size 35 #[.int .i64 x.m.kd, .int .i64 x.m.fr, .int .i64 x.m.vw, .int .i64 x.m.ins, .int .i64 x.m.sq, .int .i64 x.m.rs, .slice x.A1 x.m.bt.length x.c1, .slice x.A2 x.m.vs.length x.c2, .slice x.A3 x.m.cs.length x.c3, .slice x.A4 x.m.ps.length x.c4] from (Blk.new w _ _).alloc _)
  clear h hb0
  go_enter Tryz.func22, Tryz.ntmps22
  go_wp2_with fail
  obtain ⟨w0, hw0⟩ : ∃ w0, ((w.alloc (.cells #[.int .i64 x.m.kd, .int .i64 x.m.fr, .int .i64 x.m.vw, .int .i64 x.m.ins, .int .i64 x.m.sq, .int .i64 x.m.rs, .slice x.A1 x.m.bt.length x.c1, .slice x.A2 x.m.vs.length x.c2, .slice x.A3 x.m.cs.length x.c3, .slice x.A4 x.m.ps.length x.c4] 35)).alloc (.cells #[.slice none 0 0, .bool false] 85)) = w0 := ⟨_, rfl⟩
  rw [hw0] at HB0 HI HH0 HX0 ⊢
  have HS0 := Lib.hid (show w.heap.size + 1 ≤ w0.heap.size from by rw [← hw0]; simp)
  have HK0 := Lib.hid (Kept.refl (w.heap.size + 1) (w.heap.size + 1) 5 w0)
  clear hw0
  refine (pen_num x.m.kd (w.heap.size + 1) (w.heap.size + 1) _ _ w0 HH0.out (by simp at hsz ⊢ <;> omega) HS0.out).mono ?_
  rintro e w1 hp
  obtain ⟨rfl, hk, hh⟩ := pen_more HK0.out hp
  have HK1 := Lib.hid hk
  have HH1 := Lib.hid hh
  have HS1 := Lib.hid (Nat.le_trans HS0.out hk.size)
  have d1 : w1.cell? ⟨w.heap.size, 1, none⟩ = some (.int .i64 x.m.fr) := hk.cellB (Nat.le_refl _) (HX0.out.cell 1) (by simp)
  clear hp hk hh HK0 HH0
  go_wp2_with fail
  refine (pen_num x.m.fr (w.heap.size + 1) (w.heap.size + 1) _ _ w1 HH1.out (by simp at hsz ⊢ <;> omega) HS1.out).mono ?_
  rintro e w2 hp
  obtain ⟨rfl, hk, hh⟩ := pen_more HK1.out hp
  have HK2 := Lib.hid hk
  have HH2 := Lib.hid hh
  have HS2 := Lib.hid (Nat.le_trans HS0.out hk.size)
  have d2 : w2.cell? ⟨w.heap.size, 2, none⟩ = some (.int .i64 x.m.vw) := hk.cellB (Nat.le_refl _) (HX0.out.cell 2) (by simp)
  clear hp hk hh HK1 HH1 HS1
  go_wp2_with fail
  refine (pen_num x.m.vw (w.heap.size + 1) (w.heap.size + 1) _ _ w2 HH2.out (by simp at hsz ⊢ <;> omega) HS2.out).mono ?_
  rintro e w3 hp
  obtain ⟨rfl, hk, hh⟩ := pen_more HK2.out hp
  have HK3 := Lib.hid hk
  have HH3 := Lib.hid hh
  have HS3 := Lib.hid (Nat.le_trans HS0.out hk.size)
  have d3 : w3.cell? ⟨w.heap.size, 3, none⟩ = some (.int .i64 x.m.ins) := hk.cellB (Nat.le_refl _) (HX0.out.cell 3) (by simp)
  clear hp hk hh HK2 HH2 HS2
  go_wp2_with fail
  refine (pen_num x.m.ins (w.heap.size + 1) (w.heap.size + 1) _ _ w3 HH3.out (by simp at hsz ⊢ <;> omega) HS3.out).mono ?_
  rintro e w4 hp
  obtain ⟨rfl, hk, hh⟩ := pen_more HK3.out hp
  have HK4 := Lib.hid hk
  have HH4 := Lib.hid hh
  have HS4 := Lib.hid (Nat.le_trans HS0.out hk.size)
  have d4 : w4.cell? ⟨w.heap.size, 4, none⟩ = some (.int .i64 x.m.sq) := hk.cellB (Nat.le_refl _) (HX0.out.cell 4) (by simp)
  clear hp hk hh HK3 HH3 HS3
  go_wp2_with fail
  refine (pen_num x.m.sq (w.heap.size + 1) (w.heap.size + 1) _ _ w4 HH4.out (by simp at hsz ⊢ <;> omega) HS4.out).mono ?_
  rintro e w5 hp
  obtain ⟨rfl, hk, hh⟩ := pen_more HK4.out hp
  have HK5 := Lib.hid hk
  have HH5 := Lib.hid hh
  have HS5 := Lib.hid (Nat.le_trans HS0.out hk.size)
  have d5 : w5.cell? ⟨w.heap.size, 5, none⟩ = some (.int .i64 x.m.rs) := hk.cellB (Nat.le_refl _) (HX0.out.cell 5) (by simp)
  clear hp hk hh HK4 HH4 HS4
  go_wp2_with fail
  refine (pen_signed x.m.rs (w.heap.size + 1) (w.heap.size + 1) _ _ w5 HH5.out (by simp at hsz ⊢ <;> omega) HS5.out).mono ?_
  rintro e w6 hp
  obtain ⟨rfl, hk, hh⟩ := pen_more HK5.out hp
  have HK6 := Lib.hid hk
  have HH6 := Lib.hid hh
  have HS6 := Lib.hid (Nat.le_trans HS0.out hk.size)
  have d6 : w6.cell? ⟨w.heap.size, 6, none⟩ = some (.slice x.A1 x.m.bt.length x.c1) := hk.cellB (Nat.le_refl _) (HX0.out.cell 6) (by simp)
  clear hp hk hh HK5 HH5 HS5
  go_wp2_with fail
  refine (pen_batch x.m.bt x.A1 x.c1 (w.heap.size + 1) (w.heap.size + 1) _ _ w6 HH6.out (HK6.out.has (Nat.le_refl _) HI.out.bt) (by simp at hsz ⊢ <;> omega) HS6.out).mono ?_
  rintro e w7 hp
  obtain ⟨rfl, hk, hh⟩ := pen_more HK6.out hp
  have HK7 := Lib.hid hk
  have HH7 := Lib.hid hh
  have HS7 := Lib.hid (Nat.le_trans HS0.out hk.size)
  have d7 : w7.cell? ⟨w.heap.size, 7, none⟩ = some (.slice x.A2 x.m.vs.length x.c2) := hk.cellB (Nat.le_refl _) (HX0.out.cell 7) (by simp)
  clear hp hk hh HK6 HH6 HS6
  go_wp2_with fail
  refine (pen_votes x.m.vs x.A2 x.c2 (w.heap.size + 1) (w.heap.size + 1) _ _ w7 HH7.out (HK7.out.has (Nat.le_refl _) HI.out.vs) (by simp at hsz ⊢ <;> omega) HS7.out).mono ?_
  rintro e w8 hp
  obtain ⟨rfl, hk, hh⟩ := pen_more HK7.out hp
  have HK8 := Lib.hid hk
  have HH8 := Lib.hid hh
  have HS8 := Lib.hid (Nat.le_trans HS0.out hk.size)
  have d8 : w8.cell? ⟨w.heap.size, 8, none⟩ = some (.slice x.A3 x.m.cs.length x.c3) := hk.cellB (Nat.le_refl _) (HX0.out.cell 8) (by simp)
  clear hp hk hh HK7 HH7 HS7
  go_wp2_with fail
  refine (pen_certs x.m.cs x.A3 x.c3 (w.heap.size + 1) (w.heap.size + 1) _ _ w8 HH8.out (HI.out.cs.reads (Reads.kept HK8.out (Nat.le_refl _))) (by simp at hsz ⊢ <;> omega) HS8.out).mono ?_
  rintro e w9 hp
  obtain ⟨rfl, hk, hh⟩ := pen_more HK8.out hp
  have HK9 := Lib.hid hk
  have HH9 := Lib.hid hh
  have HS9 := Lib.hid (Nat.le_trans HS0.out hk.size)
  have d9 : w9.cell? ⟨w.heap.size, 9, none⟩ = some (.slice x.A4 x.m.ps.length x.c4) := hk.cellB (Nat.le_refl _) (HX0.out.cell 9) (by simp)
  clear hp hk hh HK8 HH8 HS8
  go_wp2_with fail
  refine (pen_parts x.m.ps x.A4 x.c4 (w.heap.size + 1) (w.heap.size + 1) _ _ w9 HH9.out (HI.out.ps.reads (Reads.kept HK9.out (Nat.le_refl _))) (by simp at hsz ⊢ <;> omega) HS9.out).mono ?_
  rintro e w10 hp
  obtain ⟨rfl, hk, hh⟩ := pen_more HK9.out hp
  have HK10 := Lib.hid hk
  have HH10 := Lib.hid hh
  have HS10 := Lib.hid (Nat.le_trans HS0.out hk.size)
  clear hp hk hh HK9 HH9 HS9
  go_wp2_with fail
  have HT := Lib.hid (show penStep (some []) (((((((((([] ++ [Tok.num x.m.kd]) ++ [Tok.num x.m.fr]) ++ [Tok.num x.m.vw]) ++ [Tok.num x.m.ins]) ++ [Tok.num x.m.sq]) ++ [Tok.sgn x.m.rs]) ++ (listToks Rq.toks x.m.bt)) ++ (listToks Vt.toks x.m.vs)) ++ (listToks Ct.toks x.m.cs)) ++ (listToks Pt.toks x.m.ps)) = bytesOf x.m.toks from by
    rw [penStep_new]
    congr 1
    simp [Mg.toks, Mg.head])
  have HB := Lib.hid (HB0.out.trans (HK10.out.below (Nat.le_refl _) (Nat.le_succ _) (by have := HS10.out; have := HB0.out.size; omega)))
  refine (pen_done _ _ _ _ _ HH10.out).mono ?_
  rintro e w11 ⟨rfl, ⟨bs, A2, c2, hst, rfl, ho⟩ | ⟨hst, rfl⟩⟩
  · rw [HT.out] at hst
    by_cases hl : bs.length ≤ 65536
    · have HR := Lib.hid (show MsgPost (bodyM x.m) w (.returned (.tuple #[.slice A2 bs.length c2, .bool true])) w10 from ⟨HB.out, Or.inl ⟨bs, A2, c2, by rw [bodyM_some hst, if_pos hl], rfl, own_down ho (Nat.le_succ _)⟩⟩)
      have t1 : decide ((65536 : Int) < (bs.length : Int)) = false := decide_eq_false (by omega)
      have t2 : decide (65536 < bs.length) = false := decide_eq_false (by omega)
      clear hst ho hl
      go_wp2_with fail
      go_ret2
      exact HR.out
    · have HR := Lib.hid (show MsgPost (bodyM x.m) w (.returned (.tuple #[.slice none 0 0, .bool false])) w10 from ⟨HB.out, Or.inr ⟨by rw [bodyM_some hst, if_neg hl], rfl⟩⟩)
      have t1 : decide ((65536 : Int) < (bs.length : Int)) = true := decide_eq_true (by omega)
      have t2 : decide (65536 < bs.length) = true := decide_eq_true (by omega)
      clear hst ho hl
      go_wp2_with fail
      go_ret2
      exact HR.out
  · rw [HT.out] at hst
    have HR := Lib.hid (show MsgPost (bodyM x.m) w (.returned (.tuple #[.slice none 0 0, .bool false])) w10 from ⟨HB.out, Or.inr ⟨bodyM_none hst, rfl⟩⟩)
    clear hst
    go_wp2_with fail
    go_ret2
    exact HR.out
end Go.Proofs.YtiffmjfbdidgkaaGreat
/- The contract of reqs.Valid. -/
namespace Go.Proofs.YtiffmjfbdidgkaaGreat
open Go.RowKit

end Go.Proofs.YtiffmjfbdidgkaaGreat
/- Arguments that came in: a message, a certificate, a part, by value, opened to cells. -/
namespace Go.Proofs.YtiffmjfbdidgkaaGreat
open Go.RowKit Go.ChangeShapes Go.WideShapes Go.Deep

/-- A message whose lists came in. -/
structure Ms.Came (w : World) (x : Ms) : Prop where
  kd : fit x.m.kd
  fr : fit x.m.fr
  vw : fit x.m.vw
  ins : fit x.m.ins
  sq : fit x.m.sq
  rs : fit x.m.rs
  bt : IsReqs w x.A1 x.m.bt x.c1
  vs : IsVotes w x.A2 x.m.vs x.c2
  cs : IsCerts w x.A3 x.m.cs x.c3
  ps : IsParts w x.A4 x.m.ps x.c4
theorem Ms.Came.in_ {w : World} {x : Ms} (h : x.Came w) : x.In w w.heap.size := ⟨h.bt.has, h.vs.has, h.cs.has, h.ps.has⟩
theorem Cs.Came.in_ {w : World} {x : Cs} (h : x.Came w) : x.In w w.heap.size := ⟨h.bt.has, h.vs.has⟩
theorem Ps.Came.in_ {w : World} {x : Ps} (h : x.Came w) : x.In w w.heap.size := ⟨h.vs.has, h.cs.has⟩
section
variable {H : Type} {enc : TypeId × Value → H} {w : World} {base : Nat} {held : Bool}
end
end Go.Proofs.YtiffmjfbdidgkaaGreat
/- The contracts of the document's Same, Has, Rises at requests. -/
namespace Go.Proofs.YtiffmjfbdidgkaaGreat
open Go.RowKit

end Go.Proofs.YtiffmjfbdidgkaaGreat
/- The contract of the document's Order. -/
namespace Go.Proofs.YtiffmjfbdidgkaaGreat
open Go.RowKit

end Go.Proofs.YtiffmjfbdidgkaaGreat
/- The contract of slices.Clone at requests. -/
namespace Go.Proofs.YtiffmjfbdidgkaaGreat
open Go.RowKit

end Go.Proofs.YtiffmjfbdidgkaaGreat
/- The contracts of the document's Sealed and Right. -/
namespace Go.Proofs.YtiffmjfbdidgkaaGreat
open Go.RowKit

end Go.Proofs.YtiffmjfbdidgkaaGreat
