/- The contracts of the document's ReqBody and Compare. -/
import Derived.Test.YtbegjadohamkkaaGreatOS1
import Derived.Test.YtbegjadohamkkaaGreatOPenCerts
import Derived.Test.YtbegjadohamkkaaGreatOS0
import Derived.Deep.QuietTactic
import Derived.BigQuiet
import Derived.Deep.DeepCutAuto
namespace Go.Proofs.YtbegjadohamkkaaGreat
open Go.RowKit

theorem own_down {w : World} {b b' n s : Nat} {e : TypeId} {v : Value} {xs : List Value} (h : w.ownsRow b e s v n xs) (hb : b' ≤ b) : w.ownsRow b' e s v n xs := by
  refine ⟨h.1, ?_⟩
  rcases h.2 with h2 | ⟨g, cap, cur, hv, hg, r⟩
  · exact Or.inl h2
  · exact Or.inr ⟨g, cap, cur, hv, Nat.le_trans hb hg, r⟩
/-- From a later world back. -/
theorem BytesPost.back {ts : List Tok} {w w1 w' : World} {e : Ending} (h : BytesPost ts w1 e w') (hb : Below w.heap.size w w1) : BytesPost ts w e w' := by
  obtain ⟨h1, h2⟩ := h
  refine ⟨hb.trans (h1.mono hb.size), ?_⟩
  rcases h2 with ⟨bs, A, c, k1, k2, k3⟩ | h2
  · exact Or.inl ⟨bs, A, c, k1, k2, own_down k3 hb.size⟩
  · exact Or.inr h2
end Go.Proofs.YtbegjadohamkkaaGreat
/- A message as it lies; the contract of the document's Body. -/
namespace Go.Proofs.YtbegjadohamkkaaGreat
open Go.RowKit

/-- A message as it lies: it, and where its lists are. -/
structure Ms where
  m : Mg
  A1 : Option Addr
  c1 : Nat
  A2 : Option Addr
  c2 : Nat
  A3 : Option Addr
  c3 : Nat
  A4 : Option Addr
  c4 : Nat
structure Ms.In (w : World) (B : Nat) (x : Ms) : Prop where
  bt : Has w B x.A1 (reqCells x.m.bt)
  vs : Has w B x.A2 (voteCells x.m.vs)
  cs : HasCerts w B x.A3 x.m.cs
  ps : HasParts w B x.A4 x.m.ps
theorem Ms.In.reads {w w' : World} {B B' : Nat} {x : Ms} (h : x.In w B) (hr : Reads B B' w w') : x.In w' B' := ⟨hr _ _ h.bt, hr _ _ h.vs, h.cs.reads hr, h.ps.reads hr⟩
/-- Bytes, or none. -/
def MsgPost (o : Option (List Int)) (w : World) (e : Ending) (w' : World) : Prop :=
  Below w.heap.size w w' ∧ ((∃ bs A c, o = some bs ∧ e = .returned (.tuple #[.slice A bs.length c, .bool true]) ∧ w'.ownsRow w.heap.size 5 1 (.slice A bs.length c) bs.length (u8s bs)) ∨
    (o = none ∧ e = .returned (.tuple #[.slice none 0 0, .bool false])))
theorem pen_more {w1 w2 w3 : World} {B g : Nat} {pre ts : List Tok} {e : Ending} (hk : Kept B g 5 w1 w2) (hp : PenPost w2 B g (6 * pre.length) (penStep (some []) pre) ts e w3) :
    e = .returned (.tuple #[]) ∧ Kept B g 5 w1 w3 ∧ PenHas w3 B g (6 * (pre ++ ts).length) (penStep (some []) (pre ++ ts)) := by
  obtain ⟨h1, h2, h3⟩ := hp
  exact ⟨h1, hk.trans h2, by rw [penStep_app, List.length_append, Nat.mul_add]; exact h3⟩
theorem bodyM_some {m : Mg} {bs : List Int} (h : bytesOf m.toks = some bs) : bodyM m = if bs.length ≤ 65536 then some bs else none := by unfold bodyM; rw [h]
theorem bodyM_none {m : Mg} (h : bytesOf m.toks = none) : bodyM m = none := by unfold bodyM; rw [h]
set_option maxHeartbeats 2000000 in
set_option maxRecDepth 100000 in
theorem rbody_msg (x : Ms) (w : World) (h : x.In w w.heap.size) (hsz : 6 * x.m.toks.length ≤ 70368744177664) :
    Calls Tryz.prog 25 #[.agg #[.int .i64 x.m.kd, .int .i64 x.m.fr, .int .i64 x.m.vw, .int .i64 x.m.ins, .int .i64 x.m.sq, .int .i64 x.m.rs, .slice x.A1 x.m.bt.length x.c1, .slice x.A2 x.m.vs.length x.c2, .slice x.A3 x.m.cs.length x.c3, .slice x.A4 x.m.ps.length x.c4]] w (MsgPost (bodyM x.m) w) := by
  have hsz : 6 * (6 + ((listToks Rq.toks x.m.bt).length + ((listToks Vt.toks x.m.vs).length + ((listToks Ct.toks x.m.cs).length + (listToks Pt.toks x.m.ps).length)))) ≤ 70368744177664 := by
    simp only [Mg.toks, Mg.head, List.length_append, List.length_cons, List.length_nil] at hsz
    omega
  have hb0 : Below w.heap.size w ((w.alloc (.cells #[.int .i64 x.m.kd, .int .i64 x.m.fr, .int .i64 x.m.vw, .int .i64 x.m.ins, .int .i64 x.m.sq, .int .i64 x.m.rs, .slice x.A1 x.m.bt.length x.c1, .slice x.A2 x.m.vs.length x.c2, .slice x.A3 x.m.cs.length x.c3, .slice x.A4 x.m.ps.length x.c4] 38)).alloc (.cells #[.slice none 0 0, .bool false] 123)) := ((Below.refl _ w).alloc (Nat.le_refl _) _).alloc (by simp) _
  have HB0 := Lib.hid hb0
  have HI := Lib.hid ((h.reads (Reads.below hb0 (Nat.le_refl _))).reads (Reads.more (B' := w.heap.size + 1) (Nat.le_succ _)))
  have HH0 := Lib.hid (show PenHas ((w.alloc (.cells #[.int .i64 x.m.kd, .int .i64 x.m.fr, .int .i64 x.m.vw, .int .i64 x.m.ins, .int .i64 x.m.sq, .int .i64 x.m.rs, .slice x.A1 x.m.bt.length x.c1, .slice x.A2 x.m.vs.length x.c2, .slice x.A3 x.m.cs.length x.c3, .slice x.A4 x.m.ps.length x.c4] 38)).alloc (.cells #[.slice none 0 0, .bool false] 123)) (w.heap.size + 1) (w.heap.size + 1) (6 * ([] : List Tok).length) (penStep (some []) []) from by
    have := PenHas.new (w.alloc (.cells #[.int .i64 x.m.kd, .int .i64 x.m.fr, .int .i64 x.m.vw, .int .i64 x.m.ins, .int .i64 x.m.sq, .int .i64 x.m.rs, .slice x.A1 x.m.bt.length x.c1, .slice x.A2 x.m.vs.length x.c2, .slice x.A3 x.m.cs.length x.c3, .slice x.A4 x.m.ps.length x.c4] 38))
    rw [show (w.alloc (.cells #[.int .i64 x.m.kd, .int .i64 x.m.fr, .int .i64 x.m.vw, .int .i64 x.m.ins, .int .i64 x.m.sq, .int .i64 x.m.rs, .slice x.A1 x.m.bt.length x.c1, .slice x.A2 x.m.vs.length x.c2, .slice x.A3 x.m.cs.length x.c3, .slice x.A4 x.m.ps.length x.c4] 38)).heap.size = w.heap.size + 1 by simp] at this
    simpa [penStep_nil] using this)
  have HX0 := Lib.hid (show Blk ((w.alloc (.cells #[.int .i64 x.m.kd, .int .i64 x.m.fr, .int .i64 x.m.vw, .int .i64 x.m.ins, .int .i64 x.m.sq, .int .i64 x.m.rs, .slice x.A1 x.m.bt.length x.c1, .slice x.A2 x.m.vs.length x.c2, .slice x.A3 x.m.cs.length x.c3, .slice x.A4 x.m.ps.length x.c4] 38)).alloc (.cells #[.slice none 0 0, .bool false] 123)) w.heap.size 38 #[.int .i64 x.m.kd, .int .i64 x.m.fr, .int .i64 x.m.vw, .int .i64 x.m.ins, .int .i64 x.m.sq, .int .i64 x.m.rs, .slice x.A1 x.m.bt.length x.c1, .slice x.A2 x.m.vs.length x.c2, .slice x.A3 x.m.cs.length x.c3, .slice x.A4 x.m.ps.length x.c4] from (Blk.new w _ _).alloc _)
  clear h hb0
  go_enter Tryz.func25, Tryz.ntmps25
  go_wp2_with fail
  obtain ⟨w0, hw0⟩ : ∃ w0, ((w.alloc (.cells #[.int .i64 x.m.kd, .int .i64 x.m.fr, .int .i64 x.m.vw, .int .i64 x.m.ins, .int .i64 x.m.sq, .int .i64 x.m.rs, .slice x.A1 x.m.bt.length x.c1, .slice x.A2 x.m.vs.length x.c2, .slice x.A3 x.m.cs.length x.c3, .slice x.A4 x.m.ps.length x.c4] 38)).alloc (.cells #[.slice none 0 0, .bool false] 123)) = w0 := ⟨_, rfl⟩
  rw [hw0] at HB0 HI HH0 HX0 ⊢
  have HS0 := Lib.hid (show w.heap.size + 1 ≤ w0.heap.size from by rw [← hw0]; simp)
  have HK0 := Lib.hid (Kept.refl (w.heap.size + 1) (w.heap.size + 1) 5 w0)
  clear hw0
  refine (pen_num x.m.kd (w.heap.size + 1) (w.heap.size + 1) _ _ w0 HH0.out (by simp at hsz ⊢ <;> omega) HS0.out).mono ?_
  rintro e w1 hp
  obtain ⟨rfl, hk, hh⟩ := pen_more HK0.out hp
  have HK1 := Lib.hid hk
  have HH1 := Lib.hid hh
  have HS1 := Lib.hid (Nat.le_trans HS0.out hk.size)
  have d1 : w1.cell? ⟨w.heap.size, 1, none⟩ = some (.int .i64 x.m.fr) := hk.cellB (Nat.le_refl _) (HX0.out.cell 1) (by simp)
  clear hp hk hh HK0 HH0
  go_wp2_with fail
  refine (pen_num x.m.fr (w.heap.size + 1) (w.heap.size + 1) _ _ w1 HH1.out (by simp at hsz ⊢ <;> omega) HS1.out).mono ?_
  rintro e w2 hp
  obtain ⟨rfl, hk, hh⟩ := pen_more HK1.out hp
  have HK2 := Lib.hid hk
  have HH2 := Lib.hid hh
  have HS2 := Lib.hid (Nat.le_trans HS0.out hk.size)
  have d2 : w2.cell? ⟨w.heap.size, 2, none⟩ = some (.int .i64 x.m.vw) := hk.cellB (Nat.le_refl _) (HX0.out.cell 2) (by simp)
  clear hp hk hh HK1 HH1 HS1
  go_wp2_with fail
  refine (pen_num x.m.vw (w.heap.size + 1) (w.heap.size + 1) _ _ w2 HH2.out (by simp at hsz ⊢ <;> omega) HS2.out).mono ?_
  rintro e w3 hp
  obtain ⟨rfl, hk, hh⟩ := pen_more HK2.out hp
  have HK3 := Lib.hid hk
  have HH3 := Lib.hid hh
  have HS3 := Lib.hid (Nat.le_trans HS0.out hk.size)
  have d3 : w3.cell? ⟨w.heap.size, 3, none⟩ = some (.int .i64 x.m.ins) := hk.cellB (Nat.le_refl _) (HX0.out.cell 3) (by simp)
  clear hp hk hh HK2 HH2 HS2
  go_wp2_with fail
  refine (pen_num x.m.ins (w.heap.size + 1) (w.heap.size + 1) _ _ w3 HH3.out (by simp at hsz ⊢ <;> omega) HS3.out).mono ?_
  rintro e w4 hp
  obtain ⟨rfl, hk, hh⟩ := pen_more HK3.out hp
  have HK4 := Lib.hid hk
  have HH4 := Lib.hid hh
  have HS4 := Lib.hid (Nat.le_trans HS0.out hk.size)
  have d4 : w4.cell? ⟨w.heap.size, 4, none⟩ = some (.int .i64 x.m.sq) := hk.cellB (Nat.le_refl _) (HX0.out.cell 4) (by simp)
  clear hp hk hh HK3 HH3 HS3
  go_wp2_with fail
  refine (pen_num x.m.sq (w.heap.size + 1) (w.heap.size + 1) _ _ w4 HH4.out (by simp at hsz ⊢ <;> omega) HS4.out).mono ?_
  rintro e w5 hp
  obtain ⟨rfl, hk, hh⟩ := pen_more HK4.out hp
  have HK5 := Lib.hid hk
  have HH5 := Lib.hid hh
  have HS5 := Lib.hid (Nat.le_trans HS0.out hk.size)
  have d5 : w5.cell? ⟨w.heap.size, 5, none⟩ = some (.int .i64 x.m.rs) := hk.cellB (Nat.le_refl _) (HX0.out.cell 5) (by simp)
  clear hp hk hh HK4 HH4 HS4
  go_wp2_with fail
  refine (pen_signed x.m.rs (w.heap.size + 1) (w.heap.size + 1) _ _ w5 HH5.out (by simp at hsz ⊢ <;> omega) HS5.out).mono ?_
  rintro e w6 hp
  obtain ⟨rfl, hk, hh⟩ := pen_more HK5.out hp
  have HK6 := Lib.hid hk
  have HH6 := Lib.hid hh
  have HS6 := Lib.hid (Nat.le_trans HS0.out hk.size)
  have d6 : w6.cell? ⟨w.heap.size, 6, none⟩ = some (.slice x.A1 x.m.bt.length x.c1) := hk.cellB (Nat.le_refl _) (HX0.out.cell 6) (by simp)
  clear hp hk hh HK5 HH5 HS5
  go_wp2_with fail
  refine (pen_batch x.m.bt x.A1 x.c1 (w.heap.size + 1) (w.heap.size + 1) _ _ w6 HH6.out (HK6.out.has (Nat.le_refl _) HI.out.bt) (by simp at hsz ⊢ <;> omega) HS6.out).mono ?_
  rintro e w7 hp
  obtain ⟨rfl, hk, hh⟩ := pen_more HK6.out hp
  have HK7 := Lib.hid hk
  have HH7 := Lib.hid hh
  have HS7 := Lib.hid (Nat.le_trans HS0.out hk.size)
  have d7 : w7.cell? ⟨w.heap.size, 7, none⟩ = some (.slice x.A2 x.m.vs.length x.c2) := hk.cellB (Nat.le_refl _) (HX0.out.cell 7) (by simp)
  clear hp hk hh HK6 HH6 HS6
  go_wp2_with fail
  refine (pen_votes x.m.vs x.A2 x.c2 (w.heap.size + 1) (w.heap.size + 1) _ _ w7 HH7.out (HK7.out.has (Nat.le_refl _) HI.out.vs) (by simp at hsz ⊢ <;> omega) HS7.out).mono ?_
  rintro e w8 hp
  obtain ⟨rfl, hk, hh⟩ := pen_more HK7.out hp
  have HK8 := Lib.hid hk
  have HH8 := Lib.hid hh
  have HS8 := Lib.hid (Nat.le_trans HS0.out hk.size)
  have d8 : w8.cell? ⟨w.heap.size, 8, none⟩ = some (.slice x.A3 x.m.cs.length x.c3) := hk.cellB (Nat.le_refl _) (HX0.out.cell 8) (by simp)
  clear hp hk hh HK7 HH7 HS7
  go_wp2_with fail
  refine (pen_certs x.m.cs x.A3 x.c3 (w.heap.size + 1) (w.heap.size + 1) _ _ w8 HH8.out (HI.out.cs.reads (Reads.kept HK8.out (Nat.le_refl _))) (by simp at hsz ⊢ <;> omega) HS8.out).mono ?_
  rintro e w9 hp
  obtain ⟨rfl, hk, hh⟩ := pen_more HK8.out hp
  have HK9 := Lib.hid hk
  have HH9 := Lib.hid hh
  have HS9 := Lib.hid (Nat.le_trans HS0.out hk.size)
  have d9 : w9.cell? ⟨w.heap.size, 9, none⟩ = some (.slice x.A4 x.m.ps.length x.c4) := hk.cellB (Nat.le_refl _) (HX0.out.cell 9) (by simp)
  clear hp hk hh HK8 HH8 HS8
  go_wp2_with fail
  refine (pen_parts x.m.ps x.A4 x.c4 (w.heap.size + 1) (w.heap.size + 1) _ _ w9 HH9.out (HI.out.ps.reads (Reads.kept HK9.out (Nat.le_refl _))) (by simp at hsz ⊢ <;> omega) HS9.out).mono ?_
  rintro e w10 hp
  obtain ⟨rfl, hk, hh⟩ := pen_more HK9.out hp
  have HK10 := Lib.hid hk
  have HH10 := Lib.hid hh
  have HS10 := Lib.hid (Nat.le_trans HS0.out hk.size)
  clear hp hk hh HK9 HH9 HS9
  go_wp2_with fail
  have HT := Lib.hid (show penStep (some []) (((((((((([] ++ [Tok.num x.m.kd]) ++ [Tok.num x.m.fr]) ++ [Tok.num x.m.vw]) ++ [Tok.num x.m.ins]) ++ [Tok.num x.m.sq]) ++ [Tok.sgn x.m.rs]) ++ (listToks Rq.toks x.m.bt)) ++ (listToks Vt.toks x.m.vs)) ++ (listToks Ct.toks x.m.cs)) ++ (listToks Pt.toks x.m.ps)) = bytesOf x.m.toks from by
    rw [penStep_new]
    congr 1
    simp [Mg.toks, Mg.head])
  have HB := Lib.hid (HB0.out.trans (HK10.out.below (Nat.le_refl _) (Nat.le_succ _) (by have := HS10.out; have := HB0.out.size; omega)))
  refine (pen_done _ _ _ _ _ HH10.out).mono ?_
  rintro e w11 ⟨rfl, ⟨bs, A2, c2, hst, rfl, ho⟩ | ⟨hst, rfl⟩⟩
  · rw [HT.out] at hst
    by_cases hl : bs.length ≤ 65536
    · have HR := Lib.hid (show MsgPost (bodyM x.m) w (.returned (.tuple #[.slice A2 bs.length c2, .bool true])) w10 from ⟨HB.out, Or.inl ⟨bs, A2, c2, by rw [bodyM_some hst, if_pos hl], rfl, own_down ho (Nat.le_succ _)⟩⟩)
      have t1 : decide ((65536 : Int) < (bs.length : Int)) = false := decide_eq_false (by omega)
      have t2 : decide (65536 < bs.length) = false := decide_eq_false (by omega)
      clear hst ho hl
      go_wp2_with fail
      go_ret2
      exact HR.out
    · have HR := Lib.hid (show MsgPost (bodyM x.m) w (.returned (.tuple #[.slice none 0 0, .bool false])) w10 from ⟨HB.out, Or.inr ⟨by rw [bodyM_some hst, if_neg hl], rfl⟩⟩)
      have t1 : decide ((65536 : Int) < (bs.length : Int)) = true := decide_eq_true (by omega)
      have t2 : decide (65536 < bs.length) = true := decide_eq_true (by omega)
      clear hst ho hl
      go_wp2_with fail
      go_ret2
      exact HR.out
  · rw [HT.out] at hst
    have HR := Lib.hid (show MsgPost (bodyM x.m) w (.returned (.tuple #[.slice none 0 0, .bool false])) w10 from ⟨HB.out, Or.inr ⟨bodyM_none hst, rfl⟩⟩)
    clear hst
    go_wp2_with fail
    go_ret2
    exact HR.out
end Go.Proofs.YtbegjadohamkkaaGreat
/- Arguments that came in: a message, a certificate, a part, by value, opened to cells. -/
namespace Go.Proofs.YtbegjadohamkkaaGreat
open Go.RowKit Go.ChangeShapes Go.WideShapes Go.Deep

def Ms.vals (x : Ms) : Array Value := #[.int .i64 x.m.kd, .int .i64 x.m.fr, .int .i64 x.m.vw, .int .i64 x.m.ins, .int .i64 x.m.sq, .int .i64 x.m.rs, .slice x.A1 x.m.bt.length x.c1, .slice x.A2 x.m.vs.length x.c2, .slice x.A3 x.m.cs.length x.c3, .slice x.A4 x.m.ps.length x.c4]
/-- A message whose lists came in. -/
structure Ms.Came (w : World) (x : Ms) : Prop where
  kd : fit x.m.kd
  fr : fit x.m.fr
  vw : fit x.m.vw
  ins : fit x.m.ins
  sq : fit x.m.sq
  rs : fit x.m.rs
  bt : IsReqs w x.A1 x.m.bt x.c1
  vs : IsVotes w x.A2 x.m.vs x.c2
  cs : IsCerts w x.A3 x.m.cs x.c3
  ps : IsParts w x.A4 x.m.ps x.c4
theorem Ms.Came.in_ {w : World} {x : Ms} (h : x.Came w) : x.In w w.heap.size := ⟨h.bt.has, h.vs.has, h.cs.has, h.ps.has⟩
theorem Cs.Came.in_ {w : World} {x : Cs} (h : x.Came w) : x.In w w.heap.size := ⟨h.bt.has, h.vs.has⟩
theorem Ps.Came.in_ {w : World} {x : Ps} (h : x.Came w) : x.In w w.heap.size := ⟨h.vs.has, h.cs.has⟩
section
variable {H : Type} {enc : TypeId × Value → H} {w : World} {base : Nat} {held : Bool}
set_option maxHeartbeats 1000000 in
theorem trod_msg {n : Nat} {cs : List Value} {z : DataW H × List MemPlace} (hl : cs.length = 10) (h : DataW.trod enc Tryz.prog w base (fun _ => true) held n 38 cs = some z) : ∃ x : Ms, cs = x.vals.toList ∧ x.Came w := by
  match cs, hl with
  | [c0, c1, c2, c3, c4, c5, c6, c7, c8, c9], _ =>
    have k3 : Tryz.prog.cellsOf 3 = 1 := by kernel_rfl
    have kr : Tryz.prog.cellsOf 22 = 1 := by kernel_rfl
    have kv : Tryz.prog.cellsOf 23 = 1 := by kernel_rfl
    have kc : Tryz.prog.cellsOf 35 = 1 := by kernel_rfl
    have kp : Tryz.prog.cellsOf 36 = 1 := by kernel_rfl
    obtain ⟨xs, m, _, _, _, hxl, hf⟩ := DataW.trod_struct Tryz.underlying38 h
    have hxl : xs.length = 10 := hxl
    obtain ⟨y0, e0⟩ := at_field hf 0 3 0 1 rfl k3 (by omega)
    obtain ⟨y1, e1⟩ := at_field hf 1 3 1 1 rfl k3 (by omega)
    obtain ⟨y2, e2⟩ := at_field hf 2 3 2 1 rfl k3 (by omega)
    obtain ⟨y3, e3⟩ := at_field hf 3 3 3 1 rfl k3 (by omega)
    obtain ⟨y4, e4⟩ := at_field hf 4 3 4 1 rfl k3 (by omega)
    obtain ⟨y5, e5⟩ := at_field hf 5 3 5 1 rfl k3 (by omega)
    obtain ⟨y6, e6⟩ := at_field hf 6 22 6 1 rfl kr (by omega)
    obtain ⟨y7, e7⟩ := at_field hf 7 23 7 1 rfl kv (by omega)
    obtain ⟨y8, e8⟩ := at_field hf 8 35 8 1 rfl kc (by omega)
    obtain ⟨y9, e9⟩ := at_field hf 9 36 9 1 rfl kp (by omega)
    simp only [List.drop_zero, List.drop_succ_cons, List.take_succ_cons, List.take_zero] at e0 e1 e2 e3 e4 e5 e6 e7 e8 e9
    obtain ⟨a0, h0, f0⟩ := trod_i64 e0
    obtain ⟨a1, h1, f1⟩ := trod_i64 e1
    obtain ⟨a2, h2, f2⟩ := trod_i64 e2
    obtain ⟨a3, h3, f3⟩ := trod_i64 e3
    obtain ⟨a4, h4, f4⟩ := trod_i64 e4
    obtain ⟨a5, h5, f5⟩ := trod_i64 e5
    obtain ⟨A6, l6, d6, h6⟩ := trod_is_slice Tryz.underlying22 e6
    obtain ⟨A7, l7, d7, h7⟩ := trod_is_slice Tryz.underlying23 e7
    obtain ⟨A8, l8, d8, h8⟩ := trod_is_slice Tryz.underlying35 e8
    obtain ⟨A9, l9, d9, h9⟩ := trod_is_slice Tryz.underlying36 e9
    cases h0; cases h1; cases h2; cases h3; cases h4; cases h5; cases h6; cases h7; cases h8; cases h9
    obtain ⟨b, rfl, hb⟩ := open_reqs e6
    obtain ⟨v, rfl, hv⟩ := open_votes e7
    obtain ⟨c, rfl, hc⟩ := open_certs e8
    obtain ⟨p, rfl, hp⟩ := open_parts e9
    exact ⟨⟨⟨a0, a1, a2, a3, a4, a5, b, v, c, p⟩, A6, d6, A7, d7, A8, d8, A9, d9⟩, rfl, ⟨f0, f1, f2, f3, f4, f5, hb, hv, hc, hp⟩⟩
end
end Go.Proofs.YtbegjadohamkkaaGreat
/- The contract of reqs.Valid. -/
namespace Go.Proofs.YtbegjadohamkkaaGreat
open Go.RowKit

def rq_opS (k y v : Int) : Bool := decide (1 ≤ k ∧ k ≤ 5 ∧ 0 ≤ y ∧ y < 64 ∧ -2147483648 < v ∧ v < 2147483648 ∧ (k = 1 ∨ k = 3 ∨ v = 0) ∧ (k ≠ 5 ∨ y = 0))
theorem validS_op (r : Rq) (n : Int) : validS r n = (decide (0 ≤ r.cl ∧ r.cl < n ∧ 1 ≤ r.tm ∧ r.tm ≤ 1048576) && rq_opS r.kd r.ky r.vl && decide (0 ≤ r.sg ∧ r.sg ≤ 1099511627775)) := by
  unfold validS rq_opS
  rw [Bool.eq_iff_iff]
  simp only [Bool.and_eq_true, decide_eq_true_eq]
  omega
set_option maxHeartbeats 4000000 in
theorem rq_op (k y v : Int) (w : World) :
    Calls Tryz.prog 180 #[.agg #[.int .i64 k, .int .i64 y, .int .i64 v]] w fun e w' => e = .returned (.bool (rq_opS k y v)) ∧ Below w.heap.size w w' := by
  by_cases h1 : k = 1
  · subst h1
    go_enter Tryz.func180, Tryz.ntmps180
    go_wp2
    all_goals go_ret
    all_goals refine ⟨congrArg (fun b => Ending.returned (.bool b)) ?_, (Below.refl _ _).alloc (Nat.le_refl _) _⟩
    all_goals (first | exact (decide_eq_false (by omega)).symm | exact (decide_eq_true (by omega)).symm | (rw [Bool.eq_iff_iff]; simp [rq_opS]; omega))
  · have t1 : (k == 1) = false := by simpa using h1
    by_cases h3 : k = 3
    · subst h3
      go_enter Tryz.func180, Tryz.ntmps180
      go_wp2
      all_goals go_ret
      all_goals refine ⟨congrArg (fun b => Ending.returned (.bool b)) ?_, (Below.refl _ _).alloc (Nat.le_refl _) _⟩
      all_goals (first | exact (decide_eq_false (by omega)).symm | exact (decide_eq_true (by omega)).symm | (rw [Bool.eq_iff_iff]; simp [rq_opS]; omega))
    · have t3 : (k == 3) = false := by simpa using h3
      by_cases h2 : k = 2
      · subst h2
        go_enter Tryz.func180, Tryz.ntmps180
        go_wp2
        all_goals go_ret
        all_goals refine ⟨congrArg (fun b => Ending.returned (.bool b)) ?_, (Below.refl _ _).alloc (Nat.le_refl _) _⟩
        all_goals (first | exact (decide_eq_false (by omega)).symm | exact (decide_eq_true (by omega)).symm | (rw [Bool.eq_iff_iff]; simp [rq_opS]; omega))
      · have t2 : (k == 2) = false := by simpa using h2
        by_cases h4 : k = 4
        · subst h4
          go_enter Tryz.func180, Tryz.ntmps180
          go_wp2
          all_goals go_ret
          all_goals refine ⟨congrArg (fun b => Ending.returned (.bool b)) ?_, (Below.refl _ _).alloc (Nat.le_refl _) _⟩
          all_goals (first | exact (decide_eq_false (by omega)).symm | exact (decide_eq_true (by omega)).symm | (rw [Bool.eq_iff_iff]; simp [rq_opS]; omega))
        · have t4 : (k == 4) = false := by simpa using h4
          by_cases h5 : k = 5
          · subst h5
            go_enter Tryz.func180, Tryz.ntmps180
            go_wp2
            all_goals go_ret
            all_goals refine ⟨congrArg (fun b => Ending.returned (.bool b)) ?_, (Below.refl _ _).alloc (Nat.le_refl _) _⟩
            all_goals (first | exact (decide_eq_false (by omega)).symm | exact (decide_eq_true (by omega)).symm | (rw [Bool.eq_iff_iff]; simp [rq_opS]; omega))
          · have t5 : (k == 5) = false := by simpa using h5
            have hk : rq_opS k y v = false := decide_eq_false (by omega)
            rw [hk]
            clear hk h1 h2 h3 h4 h5
            go_enter Tryz.func180, Tryz.ntmps180
            go_wp2
            go_ret
            exact ⟨rfl, (Below.refl _ _).alloc (Nat.le_refl _) _⟩
set_option maxHeartbeats 4000000 in
set_option maxRecDepth 100000 in
theorem rq_valid (r : Rq) (n : Int) (w : World) :
    Calls Tryz.prog 159 #[.agg #[.int .i64 r.cl, .int .i64 r.tm, .int .i64 r.kd, .int .i64 r.ky, .int .i64 r.vl, .int .i64 r.sg], .int .i64 n] w fun e w' => e = .returned (.bool (validS r n)) ∧ Below w.heap.size w w' := by
  have HV := Lib.hid (validS_op r n)
  have HO := Lib.hid (fun w => rq_op r.kd r.ky r.vl w)
  by_cases h1 : 0 ≤ r.cl ∧ r.cl < n ∧ 1 ≤ r.tm ∧ r.tm ≤ 1048576
  · have t1 : decide ((0 : Int) ≤ r.cl) = true := decide_eq_true h1.1
    have t2 : decide (r.cl < n) = true := decide_eq_true h1.2.1
    have t3 : decide ((1 : Int) ≤ r.tm) = true := decide_eq_true h1.2.2.1
    have t4 : decide (r.tm ≤ 1048576) = true := decide_eq_true h1.2.2.2
    rw [decide_eq_true h1, Bool.true_and] at HV
    clear h1
    go_enter Tryz.func159, Tryz.ntmps159
    go_wp2_with fail
    have HX := Lib.hid (show Blk (w.alloc (.cells #[.int .i64 r.cl, .int .i64 r.tm, .int .i64 r.kd, .int .i64 r.ky, .int .i64 r.vl, .int .i64 r.sg] 69)) w.heap.size 69 #[.int .i64 r.cl, .int .i64 r.tm, .int .i64 r.kd, .int .i64 r.ky, .int .i64 r.vl, .int .i64 r.sg] from Blk.new _ _ _)
    have HB := Lib.hid (show Below w.heap.size w (w.alloc (.cells #[.int .i64 r.cl, .int .i64 r.tm, .int .i64 r.kd, .int .i64 r.ky, .int .i64 r.vl, .int .i64 r.sg] 69)) from (Below.refl _ _).alloc (Nat.le_refl _) _)
    refine (HO.out _).mono ?_
    rintro e w2 ⟨rfl, hb2⟩
    have HB2 := Lib.hid (HB.out.trans (hb2.mono HB.out.size))
    have hx2 := HX.out.below hb2 HX.out.lt
    have d5 := hx2.cell 5
    simp only [List.getElem?_toArray, List.getElem?_cons_zero, List.getElem?_cons_succ] at d5
    clear hx2 hb2
    cases ho : rq_opS r.kd r.ky r.vl
    · rw [ho, Bool.false_and] at HV
      clear ho
      go_wp2_with fail
      go_ret
      exact ⟨by rw [HV.out]; rfl, HB2.out⟩
    · rw [ho, Bool.true_and] at HV
      clear ho
      go_wp2_with fail
      all_goals go_ret
      all_goals refine ⟨?_, HB2.out⟩
      all_goals rw [HV.out]
      all_goals refine congrArg (fun b => Ending.returned (.bool b)) ?_
      all_goals (first | exact (decide_eq_false (by omega)).symm | exact (decide_eq_true (by omega)).symm | (rw [Bool.eq_iff_iff]; simp; omega))
  · rw [decide_eq_false h1, Bool.false_and, Bool.false_and] at HV
    have HN := Lib.hid h1
    clear h1
    go_enter Tryz.func159, Tryz.ntmps159
    go_wp2_with (exfalso; have := HN.out; omega)
    all_goals go_ret
    all_goals exact ⟨by rw [HV.out]; rfl, (Below.refl _ _).alloc (Nat.le_refl _) _⟩
end Go.Proofs.YtbegjadohamkkaaGreat
/- The contract of the document's blank where the text names visb. -/
namespace Go.Proofs.YtbegjadohamkkaaGreat
open Go.RowKit

set_option maxHeartbeats 8000000 in
set_option maxRecDepth 100000 in
theorem rblank_visb (m : Ms) (w : World) :
    Calls Tryz.prog 79 #[.agg #[.int .i64 m.m.kd, .int .i64 m.m.fr, .int .i64 m.m.vw, .int .i64 m.m.ins, .int .i64 m.m.sq, .int .i64 m.m.rs, .slice m.A1 m.m.bt.length m.c1, .slice m.A2 m.m.vs.length m.c2, .slice m.A3 m.m.cs.length m.c3, .slice m.A4 m.m.ps.length m.c4], .string ⟨#[118, 105, 115, 98]⟩] w fun e w' => e = .returned (.bool (blankS true true true false true false false false m.m)) ∧ Below w.heap.size w w' := by
  have HB := Lib.hid (show Below w.heap.size w (w.alloc (.cells #[.int .i64 m.m.kd, .int .i64 m.m.fr, .int .i64 m.m.vw, .int .i64 m.m.ins, .int .i64 m.m.sq, .int .i64 m.m.rs, .slice m.A1 m.m.bt.length m.c1, .slice m.A2 m.m.vs.length m.c2, .slice m.A3 m.m.cs.length m.c3, .slice m.A4 m.m.ps.length m.c4] 38)) from (Below.refl _ w).alloc (Nat.le_refl _) _)
  have S118 : ∀ w : World, Calls Tryz.prog 128 #[.string ⟨#[118, 105, 115, 98]⟩, .int .u8 118] w fun e w' => e = .returned (.bool true) ∧ w' = w := fun w => (rsign_any ⟨#[118, 105, 115, 98]⟩ 118 (by decide) w).mono (fun e w' h => ⟨h.1.trans (by rfl), h.2⟩)
  have S105 : ∀ w : World, Calls Tryz.prog 128 #[.string ⟨#[118, 105, 115, 98]⟩, .int .u8 105] w fun e w' => e = .returned (.bool true) ∧ w' = w := fun w => (rsign_any ⟨#[118, 105, 115, 98]⟩ 105 (by decide) w).mono (fun e w' h => ⟨h.1.trans (by rfl), h.2⟩)
  have S115 : ∀ w : World, Calls Tryz.prog 128 #[.string ⟨#[118, 105, 115, 98]⟩, .int .u8 115] w fun e w' => e = .returned (.bool true) ∧ w' = w := fun w => (rsign_any ⟨#[118, 105, 115, 98]⟩ 115 (by decide) w).mono (fun e w' h => ⟨h.1.trans (by rfl), h.2⟩)
  have S114 : ∀ w : World, Calls Tryz.prog 128 #[.string ⟨#[118, 105, 115, 98]⟩, .int .u8 114] w fun e w' => e = .returned (.bool false) ∧ w' = w := fun w => (rsign_any ⟨#[118, 105, 115, 98]⟩ 114 (by decide) w).mono (fun e w' h => ⟨h.1.trans (by rfl), h.2⟩)
  have S98 : ∀ w : World, Calls Tryz.prog 128 #[.string ⟨#[118, 105, 115, 98]⟩, .int .u8 98] w fun e w' => e = .returned (.bool true) ∧ w' = w := fun w => (rsign_any ⟨#[118, 105, 115, 98]⟩ 98 (by decide) w).mono (fun e w' h => ⟨h.1.trans (by rfl), h.2⟩)
  have S111 : ∀ w : World, Calls Tryz.prog 128 #[.string ⟨#[118, 105, 115, 98]⟩, .int .u8 111] w fun e w' => e = .returned (.bool false) ∧ w' = w := fun w => (rsign_any ⟨#[118, 105, 115, 98]⟩ 111 (by decide) w).mono (fun e w' h => ⟨h.1.trans (by rfl), h.2⟩)
  have S99 : ∀ w : World, Calls Tryz.prog 128 #[.string ⟨#[118, 105, 115, 98]⟩, .int .u8 99] w fun e w' => e = .returned (.bool false) ∧ w' = w := fun w => (rsign_any ⟨#[118, 105, 115, 98]⟩ 99 (by decide) w).mono (fun e w' h => ⟨h.1.trans (by rfl), h.2⟩)
  have S112 : ∀ w : World, Calls Tryz.prog 128 #[.string ⟨#[118, 105, 115, 98]⟩, .int .u8 112] w fun e w' => e = .returned (.bool false) ∧ w' = w := fun w => (rsign_any ⟨#[118, 105, 115, 98]⟩ 112 (by decide) w).mono (fun e w' h => ⟨h.1.trans (by rfl), h.2⟩)
  go_enter Tryz.func79, Tryz.ntmps79
  go_upto_region 1 with fail
  refine wp_region_lit ?_
  refine wl_out ?_
  refine wl_do (by kernel_rfl) (fun K hK => ?_)
  go_simp
  refine hK _ _ ?_
  clear hK K
  refine wl_do (by kernel_rfl) (fun K hK => ?_)
  go_simp
  refine (S118 _).mono ?_
  rintro e w' ⟨rfl, rfl⟩
  go_simp
  refine hK _ _ ?_
  clear hK K
  refine wl_do (by kernel_rfl) (fun K hK => ?_)
  go_simp
  refine hK _ _ ?_
  clear hK K
  iterate 3 (refine wl_skip (by kernel_rfl) ?_)
  iterate 3 (refine wl_do (by kernel_rfl) (fun K hK => ?_); go_simp; refine hK _ _ ?_; clear hK K)
  refine wl_do (by kernel_rfl) (fun K hK => ?_)
  go_simp
  refine (S105 _).mono ?_
  rintro e w' ⟨rfl, rfl⟩
  go_simp
  refine hK _ _ ?_
  clear hK K
  refine wl_do (by kernel_rfl) (fun K hK => ?_)
  go_simp
  refine hK _ _ ?_
  clear hK K
  iterate 3 (refine wl_skip (by kernel_rfl) ?_)
  iterate 4 (refine wl_do (by kernel_rfl) (fun K hK => ?_); go_simp; refine hK _ _ ?_; clear hK K)
  refine wl_do (by kernel_rfl) (fun K hK => ?_)
  go_simp
  refine (S115 _).mono ?_
  rintro e w' ⟨rfl, rfl⟩
  go_simp
  refine hK _ _ ?_
  clear hK K
  refine wl_do (by kernel_rfl) (fun K hK => ?_)
  go_simp
  refine hK _ _ ?_
  clear hK K
  iterate 3 (refine wl_skip (by kernel_rfl) ?_)
  iterate 4 (refine wl_do (by kernel_rfl) (fun K hK => ?_); go_simp; refine hK _ _ ?_; clear hK K)
  refine wl_do (by kernel_rfl) (fun K hK => ?_)
  go_simp
  refine (S114 _).mono ?_
  rintro e w' ⟨rfl, rfl⟩
  go_simp
  refine hK _ _ ?_
  clear hK K
  refine wl_do (by kernel_rfl) (fun K hK => ?_)
  go_simp
  refine hK _ _ ?_
  clear hK K
  by_cases h3 : m.m.rs = 0
  case neg =>
    have Z3 := Lib.hid (show (m.m.rs == 0) = false by simpa using h3)
    have z3 := Z3.out
    clear h3
    iterate 6 (refine wl_do (by kernel_rfl) (fun K hK => ?_); go_simp; refine hK _ _ ?_; clear hK K)
    iterate 8 (refine wl_skip (by kernel_rfl) ?_)
    iterate 2 (refine wl_do (by kernel_rfl) (fun K hK => ?_); go_simp; refine hK _ _ ?_; clear hK K)
    iterate 8 (refine wl_skip (by kernel_rfl) ?_)
    iterate 2 (refine wl_do (by kernel_rfl) (fun K hK => ?_); go_simp; refine hK _ _ ?_; clear hK K)
    iterate 8 (refine wl_skip (by kernel_rfl) ?_)
    iterate 2 (refine wl_do (by kernel_rfl) (fun K hK => ?_); go_simp; refine hK _ _ ?_; clear hK K)
    iterate 8 (refine wl_skip (by kernel_rfl) ?_)
    iterate 2 (refine wl_do (by kernel_rfl) (fun K hK => ?_); go_simp; refine hK _ _ ?_; clear hK K)
    refine wl_nil ?_
    clear S118 S105 S115 S114 S98 S111 S99 S112
    go_wp2_with fail
    go_ret
    exact ⟨congrArg (fun b => Ending.returned (.bool b)) (show false = blankS true true true false true false false false m.m by unfold blankS; rw [Z3.out]; simp), HB.out⟩
  have Z3 := Lib.hid (show (m.m.rs == 0) = true by simpa using h3)
  have z3 := Z3.out
  clear h3
  iterate 7 (refine wl_do (by kernel_rfl) (fun K hK => ?_); go_simp; refine hK _ _ ?_; clear hK K)
  refine wl_do (by kernel_rfl) (fun K hK => ?_)
  go_simp
  refine (S98 _).mono ?_
  rintro e w' ⟨rfl, rfl⟩
  go_simp
  refine hK _ _ ?_
  clear hK K
  refine wl_do (by kernel_rfl) (fun K hK => ?_)
  go_simp
  refine hK _ _ ?_
  clear hK K
  iterate 4 (refine wl_skip (by kernel_rfl) ?_)
  iterate 4 (refine wl_do (by kernel_rfl) (fun K hK => ?_); go_simp; refine hK _ _ ?_; clear hK K)
  refine wl_do (by kernel_rfl) (fun K hK => ?_)
  go_simp
  refine (S111 _).mono ?_
  rintro e w' ⟨rfl, rfl⟩
  go_simp
  refine hK _ _ ?_
  clear hK K
  refine wl_do (by kernel_rfl) (fun K hK => ?_)
  go_simp
  refine hK _ _ ?_
  clear hK K
  by_cases h5 : m.m.vs.length = 0
  case neg =>
    have Z5 := Lib.hid (show (m.m.vs.length == 0) = false by simpa using h5)
    have z5 : ((m.m.vs.length : Int) == 0) = false := by rw [beq_eq_false_iff_ne]; omega
    have y5 := Z5.out
    clear h5
    iterate 7 (refine wl_do (by kernel_rfl) (fun K hK => ?_); go_simp; refine hK _ _ ?_; clear hK K)
    iterate 8 (refine wl_skip (by kernel_rfl) ?_)
    iterate 2 (refine wl_do (by kernel_rfl) (fun K hK => ?_); go_simp; refine hK _ _ ?_; clear hK K)
    iterate 8 (refine wl_skip (by kernel_rfl) ?_)
    iterate 2 (refine wl_do (by kernel_rfl) (fun K hK => ?_); go_simp; refine hK _ _ ?_; clear hK K)
    refine wl_nil ?_
    clear S118 S105 S115 S114 S98 S111 S99 S112
    go_wp2_with fail
    go_ret
    exact ⟨congrArg (fun b => Ending.returned (.bool b)) (show false = blankS true true true false true false false false m.m by unfold blankS; rw [Z5.out]; simp), HB.out⟩
  have Z5 := Lib.hid (show (m.m.vs.length == 0) = true by simpa using h5)
  have z5 : ((m.m.vs.length : Int) == 0) = true := by rw [beq_iff_eq]; omega
  have y5 := Z5.out
  clear h5
  iterate 8 (refine wl_do (by kernel_rfl) (fun K hK => ?_); go_simp; refine hK _ _ ?_; clear hK K)
  refine wl_do (by kernel_rfl) (fun K hK => ?_)
  go_simp
  refine (S99 _).mono ?_
  rintro e w' ⟨rfl, rfl⟩
  go_simp
  refine hK _ _ ?_
  clear hK K
  refine wl_do (by kernel_rfl) (fun K hK => ?_)
  go_simp
  refine hK _ _ ?_
  clear hK K
  by_cases h6 : m.m.cs.length = 0
  case neg =>
    have Z6 := Lib.hid (show (m.m.cs.length == 0) = false by simpa using h6)
    have z6 : ((m.m.cs.length : Int) == 0) = false := by rw [beq_eq_false_iff_ne]; omega
    have y6 := Z6.out
    clear h6
    iterate 7 (refine wl_do (by kernel_rfl) (fun K hK => ?_); go_simp; refine hK _ _ ?_; clear hK K)
    iterate 8 (refine wl_skip (by kernel_rfl) ?_)
    iterate 2 (refine wl_do (by kernel_rfl) (fun K hK => ?_); go_simp; refine hK _ _ ?_; clear hK K)
    refine wl_nil ?_
    clear S118 S105 S115 S114 S98 S111 S99 S112
    go_wp2_with fail
    go_ret
    exact ⟨congrArg (fun b => Ending.returned (.bool b)) (show false = blankS true true true false true false false false m.m by unfold blankS; rw [Z6.out]; simp), HB.out⟩
  have Z6 := Lib.hid (show (m.m.cs.length == 0) = true by simpa using h6)
  have z6 : ((m.m.cs.length : Int) == 0) = true := by rw [beq_iff_eq]; omega
  have y6 := Z6.out
  clear h6
  iterate 8 (refine wl_do (by kernel_rfl) (fun K hK => ?_); go_simp; refine hK _ _ ?_; clear hK K)
  refine wl_do (by kernel_rfl) (fun K hK => ?_)
  go_simp
  refine (S112 _).mono ?_
  rintro e w' ⟨rfl, rfl⟩
  go_simp
  refine hK _ _ ?_
  clear hK K
  refine wl_do (by kernel_rfl) (fun K hK => ?_)
  go_simp
  refine hK _ _ ?_
  clear hK K
  by_cases h7 : m.m.ps.length = 0
  case neg =>
    have Z7 := Lib.hid (show (m.m.ps.length == 0) = false by simpa using h7)
    have z7 : ((m.m.ps.length : Int) == 0) = false := by rw [beq_eq_false_iff_ne]; omega
    have y7 := Z7.out
    clear h7
    iterate 7 (refine wl_do (by kernel_rfl) (fun K hK => ?_); go_simp; refine hK _ _ ?_; clear hK K)
    refine wl_nil ?_
    clear S118 S105 S115 S114 S98 S111 S99 S112
    go_wp2_with fail
    go_ret
    exact ⟨congrArg (fun b => Ending.returned (.bool b)) (show false = blankS true true true false true false false false m.m by unfold blankS; rw [Z7.out]; simp), HB.out⟩
  have Z7 := Lib.hid (show (m.m.ps.length == 0) = true by simpa using h7)
  have z7 : ((m.m.ps.length : Int) == 0) = true := by rw [beq_iff_eq]; omega
  have y7 := Z7.out
  clear h7
  iterate 7 (refine wl_do (by kernel_rfl) (fun K hK => ?_); go_simp; refine hK _ _ ?_; clear hK K)
  refine wl_nil ?_
  clear S118 S105 S115 S114 S98 S111 S99 S112
  go_wp2_with fail
  go_ret
  exact ⟨congrArg (fun b => Ending.returned (.bool b)) (show true = blankS true true true false true false false false m.m by unfold blankS; rw [Z3.out, Z5.out, Z6.out, Z7.out]; rfl), HB.out⟩
end Go.Proofs.YtbegjadohamkkaaGreat
/- The contract of the document's blank where the text names v. -/
namespace Go.Proofs.YtbegjadohamkkaaGreat
open Go.RowKit

set_option maxHeartbeats 8000000 in
set_option maxRecDepth 100000 in
theorem rblank_v (m : Ms) (w : World) :
    Calls Tryz.prog 79 #[.agg #[.int .i64 m.m.kd, .int .i64 m.m.fr, .int .i64 m.m.vw, .int .i64 m.m.ins, .int .i64 m.m.sq, .int .i64 m.m.rs, .slice m.A1 m.m.bt.length m.c1, .slice m.A2 m.m.vs.length m.c2, .slice m.A3 m.m.cs.length m.c3, .slice m.A4 m.m.ps.length m.c4], .string ⟨#[118]⟩] w fun e w' => e = .returned (.bool (blankS true false false false false false false false m.m)) ∧ Below w.heap.size w w' := by
  have HB := Lib.hid (show Below w.heap.size w (w.alloc (.cells #[.int .i64 m.m.kd, .int .i64 m.m.fr, .int .i64 m.m.vw, .int .i64 m.m.ins, .int .i64 m.m.sq, .int .i64 m.m.rs, .slice m.A1 m.m.bt.length m.c1, .slice m.A2 m.m.vs.length m.c2, .slice m.A3 m.m.cs.length m.c3, .slice m.A4 m.m.ps.length m.c4] 38)) from (Below.refl _ w).alloc (Nat.le_refl _) _)
  have S118 : ∀ w : World, Calls Tryz.prog 128 #[.string ⟨#[118]⟩, .int .u8 118] w fun e w' => e = .returned (.bool true) ∧ w' = w := fun w => (rsign_any ⟨#[118]⟩ 118 (by decide) w).mono (fun e w' h => ⟨h.1.trans (by rfl), h.2⟩)
  have S105 : ∀ w : World, Calls Tryz.prog 128 #[.string ⟨#[118]⟩, .int .u8 105] w fun e w' => e = .returned (.bool false) ∧ w' = w := fun w => (rsign_any ⟨#[118]⟩ 105 (by decide) w).mono (fun e w' h => ⟨h.1.trans (by rfl), h.2⟩)
  have S115 : ∀ w : World, Calls Tryz.prog 128 #[.string ⟨#[118]⟩, .int .u8 115] w fun e w' => e = .returned (.bool false) ∧ w' = w := fun w => (rsign_any ⟨#[118]⟩ 115 (by decide) w).mono (fun e w' h => ⟨h.1.trans (by rfl), h.2⟩)
  have S114 : ∀ w : World, Calls Tryz.prog 128 #[.string ⟨#[118]⟩, .int .u8 114] w fun e w' => e = .returned (.bool false) ∧ w' = w := fun w => (rsign_any ⟨#[118]⟩ 114 (by decide) w).mono (fun e w' h => ⟨h.1.trans (by rfl), h.2⟩)
  have S98 : ∀ w : World, Calls Tryz.prog 128 #[.string ⟨#[118]⟩, .int .u8 98] w fun e w' => e = .returned (.bool false) ∧ w' = w := fun w => (rsign_any ⟨#[118]⟩ 98 (by decide) w).mono (fun e w' h => ⟨h.1.trans (by rfl), h.2⟩)
  have S111 : ∀ w : World, Calls Tryz.prog 128 #[.string ⟨#[118]⟩, .int .u8 111] w fun e w' => e = .returned (.bool false) ∧ w' = w := fun w => (rsign_any ⟨#[118]⟩ 111 (by decide) w).mono (fun e w' h => ⟨h.1.trans (by rfl), h.2⟩)
  have S99 : ∀ w : World, Calls Tryz.prog 128 #[.string ⟨#[118]⟩, .int .u8 99] w fun e w' => e = .returned (.bool false) ∧ w' = w := fun w => (rsign_any ⟨#[118]⟩ 99 (by decide) w).mono (fun e w' h => ⟨h.1.trans (by rfl), h.2⟩)
  have S112 : ∀ w : World, Calls Tryz.prog 128 #[.string ⟨#[118]⟩, .int .u8 112] w fun e w' => e = .returned (.bool false) ∧ w' = w := fun w => (rsign_any ⟨#[118]⟩ 112 (by decide) w).mono (fun e w' h => ⟨h.1.trans (by rfl), h.2⟩)
  go_enter Tryz.func79, Tryz.ntmps79
  go_upto_region 1 with fail
  refine wp_region_lit ?_
  refine wl_out ?_
  refine wl_do (by kernel_rfl) (fun K hK => ?_)
  go_simp
  refine hK _ _ ?_
  clear hK K
  refine wl_do (by kernel_rfl) (fun K hK => ?_)
  go_simp
  refine (S118 _).mono ?_
  rintro e w' ⟨rfl, rfl⟩
  go_simp
  refine hK _ _ ?_
  clear hK K
  refine wl_do (by kernel_rfl) (fun K hK => ?_)
  go_simp
  refine hK _ _ ?_
  clear hK K
  iterate 3 (refine wl_skip (by kernel_rfl) ?_)
  iterate 3 (refine wl_do (by kernel_rfl) (fun K hK => ?_); go_simp; refine hK _ _ ?_; clear hK K)
  refine wl_do (by kernel_rfl) (fun K hK => ?_)
  go_simp
  refine (S105 _).mono ?_
  rintro e w' ⟨rfl, rfl⟩
  go_simp
  refine hK _ _ ?_
  clear hK K
  refine wl_do (by kernel_rfl) (fun K hK => ?_)
  go_simp
  refine hK _ _ ?_
  clear hK K
  by_cases h1 : m.m.ins = 0
  case neg =>
    have Z1 := Lib.hid (show (m.m.ins == 0) = false by simpa using h1)
    have z1 := Z1.out
    clear h1
    iterate 6 (refine wl_do (by kernel_rfl) (fun K hK => ?_); go_simp; refine hK _ _ ?_; clear hK K)
    iterate 7 (refine wl_skip (by kernel_rfl) ?_)
    iterate 2 (refine wl_do (by kernel_rfl) (fun K hK => ?_); go_simp; refine hK _ _ ?_; clear hK K)
    iterate 7 (refine wl_skip (by kernel_rfl) ?_)
    iterate 2 (refine wl_do (by kernel_rfl) (fun K hK => ?_); go_simp; refine hK _ _ ?_; clear hK K)
    iterate 8 (refine wl_skip (by kernel_rfl) ?_)
    iterate 2 (refine wl_do (by kernel_rfl) (fun K hK => ?_); go_simp; refine hK _ _ ?_; clear hK K)
    iterate 8 (refine wl_skip (by kernel_rfl) ?_)
    iterate 2 (refine wl_do (by kernel_rfl) (fun K hK => ?_); go_simp; refine hK _ _ ?_; clear hK K)
    iterate 8 (refine wl_skip (by kernel_rfl) ?_)
    iterate 2 (refine wl_do (by kernel_rfl) (fun K hK => ?_); go_simp; refine hK _ _ ?_; clear hK K)
    iterate 8 (refine wl_skip (by kernel_rfl) ?_)
    iterate 2 (refine wl_do (by kernel_rfl) (fun K hK => ?_); go_simp; refine hK _ _ ?_; clear hK K)
    refine wl_nil ?_
    clear S118 S105 S115 S114 S98 S111 S99 S112
    go_wp2_with fail
    go_ret
    exact ⟨congrArg (fun b => Ending.returned (.bool b)) (show false = blankS true false false false false false false false m.m by unfold blankS; rw [Z1.out]; simp), HB.out⟩
  have Z1 := Lib.hid (show (m.m.ins == 0) = true by simpa using h1)
  have z1 := Z1.out
  clear h1
  iterate 7 (refine wl_do (by kernel_rfl) (fun K hK => ?_); go_simp; refine hK _ _ ?_; clear hK K)
  refine wl_do (by kernel_rfl) (fun K hK => ?_)
  go_simp
  refine (S115 _).mono ?_
  rintro e w' ⟨rfl, rfl⟩
  go_simp
  refine hK _ _ ?_
  clear hK K
  refine wl_do (by kernel_rfl) (fun K hK => ?_)
  go_simp
  refine hK _ _ ?_
  clear hK K
  by_cases h2 : m.m.sq = 0
  case neg =>
    have Z2 := Lib.hid (show (m.m.sq == 0) = false by simpa using h2)
    have z2 := Z2.out
    clear h2
    iterate 6 (refine wl_do (by kernel_rfl) (fun K hK => ?_); go_simp; refine hK _ _ ?_; clear hK K)
    iterate 7 (refine wl_skip (by kernel_rfl) ?_)
    iterate 2 (refine wl_do (by kernel_rfl) (fun K hK => ?_); go_simp; refine hK _ _ ?_; clear hK K)
    iterate 8 (refine wl_skip (by kernel_rfl) ?_)
    iterate 2 (refine wl_do (by kernel_rfl) (fun K hK => ?_); go_simp; refine hK _ _ ?_; clear hK K)
    iterate 8 (refine wl_skip (by kernel_rfl) ?_)
    iterate 2 (refine wl_do (by kernel_rfl) (fun K hK => ?_); go_simp; refine hK _ _ ?_; clear hK K)
    iterate 8 (refine wl_skip (by kernel_rfl) ?_)
    iterate 2 (refine wl_do (by kernel_rfl) (fun K hK => ?_); go_simp; refine hK _ _ ?_; clear hK K)
    iterate 8 (refine wl_skip (by kernel_rfl) ?_)
    iterate 2 (refine wl_do (by kernel_rfl) (fun K hK => ?_); go_simp; refine hK _ _ ?_; clear hK K)
    refine wl_nil ?_
    clear S118 S105 S115 S114 S98 S111 S99 S112
    go_wp2_with fail
    go_ret
    exact ⟨congrArg (fun b => Ending.returned (.bool b)) (show false = blankS true false false false false false false false m.m by unfold blankS; rw [Z2.out]; simp), HB.out⟩
  have Z2 := Lib.hid (show (m.m.sq == 0) = true by simpa using h2)
  have z2 := Z2.out
  clear h2
  iterate 7 (refine wl_do (by kernel_rfl) (fun K hK => ?_); go_simp; refine hK _ _ ?_; clear hK K)
  refine wl_do (by kernel_rfl) (fun K hK => ?_)
  go_simp
  refine (S114 _).mono ?_
  rintro e w' ⟨rfl, rfl⟩
  go_simp
  refine hK _ _ ?_
  clear hK K
  refine wl_do (by kernel_rfl) (fun K hK => ?_)
  go_simp
  refine hK _ _ ?_
  clear hK K
  by_cases h3 : m.m.rs = 0
  case neg =>
    have Z3 := Lib.hid (show (m.m.rs == 0) = false by simpa using h3)
    have z3 := Z3.out
    clear h3
    iterate 6 (refine wl_do (by kernel_rfl) (fun K hK => ?_); go_simp; refine hK _ _ ?_; clear hK K)
    iterate 8 (refine wl_skip (by kernel_rfl) ?_)
    iterate 2 (refine wl_do (by kernel_rfl) (fun K hK => ?_); go_simp; refine hK _ _ ?_; clear hK K)
    iterate 8 (refine wl_skip (by kernel_rfl) ?_)
    iterate 2 (refine wl_do (by kernel_rfl) (fun K hK => ?_); go_simp; refine hK _ _ ?_; clear hK K)
    iterate 8 (refine wl_skip (by kernel_rfl) ?_)
    iterate 2 (refine wl_do (by kernel_rfl) (fun K hK => ?_); go_simp; refine hK _ _ ?_; clear hK K)
    iterate 8 (refine wl_skip (by kernel_rfl) ?_)
    iterate 2 (refine wl_do (by kernel_rfl) (fun K hK => ?_); go_simp; refine hK _ _ ?_; clear hK K)
    refine wl_nil ?_
    clear S118 S105 S115 S114 S98 S111 S99 S112
    go_wp2_with fail
    go_ret
    exact ⟨congrArg (fun b => Ending.returned (.bool b)) (show false = blankS true false false false false false false false m.m by unfold blankS; rw [Z3.out]; simp), HB.out⟩
  have Z3 := Lib.hid (show (m.m.rs == 0) = true by simpa using h3)
  have z3 := Z3.out
  clear h3
  iterate 7 (refine wl_do (by kernel_rfl) (fun K hK => ?_); go_simp; refine hK _ _ ?_; clear hK K)
  refine wl_do (by kernel_rfl) (fun K hK => ?_)
  go_simp
  refine (S98 _).mono ?_
  rintro e w' ⟨rfl, rfl⟩
  go_simp
  refine hK _ _ ?_
  clear hK K
  refine wl_do (by kernel_rfl) (fun K hK => ?_)
  go_simp
  refine hK _ _ ?_
  clear hK K
  by_cases h4 : m.m.bt.length = 0
  case neg =>
    have Z4 := Lib.hid (show (m.m.bt.length == 0) = false by simpa using h4)
    have z4 : ((m.m.bt.length : Int) == 0) = false := by rw [beq_eq_false_iff_ne]; omega
    have y4 := Z4.out
    clear h4
    iterate 7 (refine wl_do (by kernel_rfl) (fun K hK => ?_); go_simp; refine hK _ _ ?_; clear hK K)
    iterate 8 (refine wl_skip (by kernel_rfl) ?_)
    iterate 2 (refine wl_do (by kernel_rfl) (fun K hK => ?_); go_simp; refine hK _ _ ?_; clear hK K)
    iterate 8 (refine wl_skip (by kernel_rfl) ?_)
    iterate 2 (refine wl_do (by kernel_rfl) (fun K hK => ?_); go_simp; refine hK _ _ ?_; clear hK K)
    iterate 8 (refine wl_skip (by kernel_rfl) ?_)
    iterate 2 (refine wl_do (by kernel_rfl) (fun K hK => ?_); go_simp; refine hK _ _ ?_; clear hK K)
    refine wl_nil ?_
    clear S118 S105 S115 S114 S98 S111 S99 S112
    go_wp2_with fail
    go_ret
    exact ⟨congrArg (fun b => Ending.returned (.bool b)) (show false = blankS true false false false false false false false m.m by unfold blankS; rw [Z4.out]; simp), HB.out⟩
  have Z4 := Lib.hid (show (m.m.bt.length == 0) = true by simpa using h4)
  have z4 : ((m.m.bt.length : Int) == 0) = true := by rw [beq_iff_eq]; omega
  have y4 := Z4.out
  clear h4
  iterate 8 (refine wl_do (by kernel_rfl) (fun K hK => ?_); go_simp; refine hK _ _ ?_; clear hK K)
  refine wl_do (by kernel_rfl) (fun K hK => ?_)
  go_simp
  refine (S111 _).mono ?_
  rintro e w' ⟨rfl, rfl⟩
  go_simp
  refine hK _ _ ?_
  clear hK K
  refine wl_do (by kernel_rfl) (fun K hK => ?_)
  go_simp
  refine hK _ _ ?_
  clear hK K
  by_cases h5 : m.m.vs.length = 0
  case neg =>
    have Z5 := Lib.hid (show (m.m.vs.length == 0) = false by simpa using h5)
    have z5 : ((m.m.vs.length : Int) == 0) = false := by rw [beq_eq_false_iff_ne]; omega
    have y5 := Z5.out
    clear h5
    iterate 7 (refine wl_do (by kernel_rfl) (fun K hK => ?_); go_simp; refine hK _ _ ?_; clear hK K)
    iterate 8 (refine wl_skip (by kernel_rfl) ?_)
    iterate 2 (refine wl_do (by kernel_rfl) (fun K hK => ?_); go_simp; refine hK _ _ ?_; clear hK K)
    iterate 8 (refine wl_skip (by kernel_rfl) ?_)
    iterate 2 (refine wl_do (by kernel_rfl) (fun K hK => ?_); go_simp; refine hK _ _ ?_; clear hK K)
    refine wl_nil ?_
    clear S118 S105 S115 S114 S98 S111 S99 S112
    go_wp2_with fail
    go_ret
    exact ⟨congrArg (fun b => Ending.returned (.bool b)) (show false = blankS true false false false false false false false m.m by unfold blankS; rw [Z5.out]; simp), HB.out⟩
  have Z5 := Lib.hid (show (m.m.vs.length == 0) = true by simpa using h5)
  have z5 : ((m.m.vs.length : Int) == 0) = true := by rw [beq_iff_eq]; omega
  have y5 := Z5.out
  clear h5
  iterate 8 (refine wl_do (by kernel_rfl) (fun K hK => ?_); go_simp; refine hK _ _ ?_; clear hK K)
  refine wl_do (by kernel_rfl) (fun K hK => ?_)
  go_simp
  refine (S99 _).mono ?_
  rintro e w' ⟨rfl, rfl⟩
  go_simp
  refine hK _ _ ?_
  clear hK K
  refine wl_do (by kernel_rfl) (fun K hK => ?_)
  go_simp
  refine hK _ _ ?_
  clear hK K
  by_cases h6 : m.m.cs.length = 0
  case neg =>
    have Z6 := Lib.hid (show (m.m.cs.length == 0) = false by simpa using h6)
    have z6 : ((m.m.cs.length : Int) == 0) = false := by rw [beq_eq_false_iff_ne]; omega
    have y6 := Z6.out
    clear h6
    iterate 7 (refine wl_do (by kernel_rfl) (fun K hK => ?_); go_simp; refine hK _ _ ?_; clear hK K)
    iterate 8 (refine wl_skip (by kernel_rfl) ?_)
    iterate 2 (refine wl_do (by kernel_rfl) (fun K hK => ?_); go_simp; refine hK _ _ ?_; clear hK K)
    refine wl_nil ?_
    clear S118 S105 S115 S114 S98 S111 S99 S112
    go_wp2_with fail
    go_ret
    exact ⟨congrArg (fun b => Ending.returned (.bool b)) (show false = blankS true false false false false false false false m.m by unfold blankS; rw [Z6.out]; simp), HB.out⟩
  have Z6 := Lib.hid (show (m.m.cs.length == 0) = true by simpa using h6)
  have z6 : ((m.m.cs.length : Int) == 0) = true := by rw [beq_iff_eq]; omega
  have y6 := Z6.out
  clear h6
  iterate 8 (refine wl_do (by kernel_rfl) (fun K hK => ?_); go_simp; refine hK _ _ ?_; clear hK K)
  refine wl_do (by kernel_rfl) (fun K hK => ?_)
  go_simp
  refine (S112 _).mono ?_
  rintro e w' ⟨rfl, rfl⟩
  go_simp
  refine hK _ _ ?_
  clear hK K
  refine wl_do (by kernel_rfl) (fun K hK => ?_)
  go_simp
  refine hK _ _ ?_
  clear hK K
  by_cases h7 : m.m.ps.length = 0
  case neg =>
    have Z7 := Lib.hid (show (m.m.ps.length == 0) = false by simpa using h7)
    have z7 : ((m.m.ps.length : Int) == 0) = false := by rw [beq_eq_false_iff_ne]; omega
    have y7 := Z7.out
    clear h7
    iterate 7 (refine wl_do (by kernel_rfl) (fun K hK => ?_); go_simp; refine hK _ _ ?_; clear hK K)
    refine wl_nil ?_
    clear S118 S105 S115 S114 S98 S111 S99 S112
    go_wp2_with fail
    go_ret
    exact ⟨congrArg (fun b => Ending.returned (.bool b)) (show false = blankS true false false false false false false false m.m by unfold blankS; rw [Z7.out]; simp), HB.out⟩
  have Z7 := Lib.hid (show (m.m.ps.length == 0) = true by simpa using h7)
  have z7 : ((m.m.ps.length : Int) == 0) = true := by rw [beq_iff_eq]; omega
  have y7 := Z7.out
  clear h7
  iterate 7 (refine wl_do (by kernel_rfl) (fun K hK => ?_); go_simp; refine hK _ _ ?_; clear hK K)
  refine wl_nil ?_
  clear S118 S105 S115 S114 S98 S111 S99 S112
  go_wp2_with fail
  go_ret
  exact ⟨congrArg (fun b => Ending.returned (.bool b)) (show true = blankS true false false false false false false false m.m by unfold blankS; rw [Z1.out, Z2.out, Z3.out, Z4.out, Z5.out, Z6.out, Z7.out]; rfl), HB.out⟩
end Go.Proofs.YtbegjadohamkkaaGreat
/- The contract of the document's blank where the text names voc. -/
namespace Go.Proofs.YtbegjadohamkkaaGreat
open Go.RowKit

set_option maxHeartbeats 8000000 in
set_option maxRecDepth 100000 in
theorem rblank_voc (m : Ms) (w : World) :
    Calls Tryz.prog 79 #[.agg #[.int .i64 m.m.kd, .int .i64 m.m.fr, .int .i64 m.m.vw, .int .i64 m.m.ins, .int .i64 m.m.sq, .int .i64 m.m.rs, .slice m.A1 m.m.bt.length m.c1, .slice m.A2 m.m.vs.length m.c2, .slice m.A3 m.m.cs.length m.c3, .slice m.A4 m.m.ps.length m.c4], .string ⟨#[118, 111, 99]⟩] w fun e w' => e = .returned (.bool (blankS true false false false false true true false m.m)) ∧ Below w.heap.size w w' := by
  have HB := Lib.hid (show Below w.heap.size w (w.alloc (.cells #[.int .i64 m.m.kd, .int .i64 m.m.fr, .int .i64 m.m.vw, .int .i64 m.m.ins, .int .i64 m.m.sq, .int .i64 m.m.rs, .slice m.A1 m.m.bt.length m.c1, .slice m.A2 m.m.vs.length m.c2, .slice m.A3 m.m.cs.length m.c3, .slice m.A4 m.m.ps.length m.c4] 38)) from (Below.refl _ w).alloc (Nat.le_refl _) _)
  have S118 : ∀ w : World, Calls Tryz.prog 128 #[.string ⟨#[118, 111, 99]⟩, .int .u8 118] w fun e w' => e = .returned (.bool true) ∧ w' = w := fun w => (rsign_any ⟨#[118, 111, 99]⟩ 118 (by decide) w).mono (fun e w' h => ⟨h.1.trans (by rfl), h.2⟩)
  have S105 : ∀ w : World, Calls Tryz.prog 128 #[.string ⟨#[118, 111, 99]⟩, .int .u8 105] w fun e w' => e = .returned (.bool false) ∧ w' = w := fun w => (rsign_any ⟨#[118, 111, 99]⟩ 105 (by decide) w).mono (fun e w' h => ⟨h.1.trans (by rfl), h.2⟩)
  have S115 : ∀ w : World, Calls Tryz.prog 128 #[.string ⟨#[118, 111, 99]⟩, .int .u8 115] w fun e w' => e = .returned (.bool false) ∧ w' = w := fun w => (rsign_any ⟨#[118, 111, 99]⟩ 115 (by decide) w).mono (fun e w' h => ⟨h.1.trans (by rfl), h.2⟩)
  have S114 : ∀ w : World, Calls Tryz.prog 128 #[.string ⟨#[118, 111, 99]⟩, .int .u8 114] w fun e w' => e = .returned (.bool false) ∧ w' = w := fun w => (rsign_any ⟨#[118, 111, 99]⟩ 114 (by decide) w).mono (fun e w' h => ⟨h.1.trans (by rfl), h.2⟩)
  have S98 : ∀ w : World, Calls Tryz.prog 128 #[.string ⟨#[118, 111, 99]⟩, .int .u8 98] w fun e w' => e = .returned (.bool false) ∧ w' = w := fun w => (rsign_any ⟨#[118, 111, 99]⟩ 98 (by decide) w).mono (fun e w' h => ⟨h.1.trans (by rfl), h.2⟩)
  have S111 : ∀ w : World, Calls Tryz.prog 128 #[.string ⟨#[118, 111, 99]⟩, .int .u8 111] w fun e w' => e = .returned (.bool true) ∧ w' = w := fun w => (rsign_any ⟨#[118, 111, 99]⟩ 111 (by decide) w).mono (fun e w' h => ⟨h.1.trans (by rfl), h.2⟩)
  have S99 : ∀ w : World, Calls Tryz.prog 128 #[.string ⟨#[118, 111, 99]⟩, .int .u8 99] w fun e w' => e = .returned (.bool true) ∧ w' = w := fun w => (rsign_any ⟨#[118, 111, 99]⟩ 99 (by decide) w).mono (fun e w' h => ⟨h.1.trans (by rfl), h.2⟩)
  have S112 : ∀ w : World, Calls Tryz.prog 128 #[.string ⟨#[118, 111, 99]⟩, .int .u8 112] w fun e w' => e = .returned (.bool false) ∧ w' = w := fun w => (rsign_any ⟨#[118, 111, 99]⟩ 112 (by decide) w).mono (fun e w' h => ⟨h.1.trans (by rfl), h.2⟩)
  go_enter Tryz.func79, Tryz.ntmps79
  go_upto_region 1 with fail
  refine wp_region_lit ?_
  refine wl_out ?_
  refine wl_do (by kernel_rfl) (fun K hK => ?_)
  go_simp
  refine hK _ _ ?_
  clear hK K
  refine wl_do (by kernel_rfl) (fun K hK => ?_)
  go_simp
  refine (S118 _).mono ?_
  rintro e w' ⟨rfl, rfl⟩
  go_simp
  refine hK _ _ ?_
  clear hK K
  refine wl_do (by kernel_rfl) (fun K hK => ?_)
  go_simp
  refine hK _ _ ?_
  clear hK K
  iterate 3 (refine wl_skip (by kernel_rfl) ?_)
  iterate 3 (refine wl_do (by kernel_rfl) (fun K hK => ?_); go_simp; refine hK _ _ ?_; clear hK K)
  refine wl_do (by kernel_rfl) (fun K hK => ?_)
  go_simp
  refine (S105 _).mono ?_
  rintro e w' ⟨rfl, rfl⟩
  go_simp
  refine hK _ _ ?_
  clear hK K
  refine wl_do (by kernel_rfl) (fun K hK => ?_)
  go_simp
  refine hK _ _ ?_
  clear hK K
  by_cases h1 : m.m.ins = 0
  case neg =>
    have Z1 := Lib.hid (show (m.m.ins == 0) = false by simpa using h1)
    have z1 := Z1.out
    clear h1
    iterate 6 (refine wl_do (by kernel_rfl) (fun K hK => ?_); go_simp; refine hK _ _ ?_; clear hK K)
    iterate 7 (refine wl_skip (by kernel_rfl) ?_)
    iterate 2 (refine wl_do (by kernel_rfl) (fun K hK => ?_); go_simp; refine hK _ _ ?_; clear hK K)
    iterate 7 (refine wl_skip (by kernel_rfl) ?_)
    iterate 2 (refine wl_do (by kernel_rfl) (fun K hK => ?_); go_simp; refine hK _ _ ?_; clear hK K)
    iterate 8 (refine wl_skip (by kernel_rfl) ?_)
    iterate 2 (refine wl_do (by kernel_rfl) (fun K hK => ?_); go_simp; refine hK _ _ ?_; clear hK K)
    iterate 8 (refine wl_skip (by kernel_rfl) ?_)
    iterate 2 (refine wl_do (by kernel_rfl) (fun K hK => ?_); go_simp; refine hK _ _ ?_; clear hK K)
    iterate 8 (refine wl_skip (by kernel_rfl) ?_)
    iterate 2 (refine wl_do (by kernel_rfl) (fun K hK => ?_); go_simp; refine hK _ _ ?_; clear hK K)
    iterate 8 (refine wl_skip (by kernel_rfl) ?_)
    iterate 2 (refine wl_do (by kernel_rfl) (fun K hK => ?_); go_simp; refine hK _ _ ?_; clear hK K)
    refine wl_nil ?_
    clear S118 S105 S115 S114 S98 S111 S99 S112
    go_wp2_with fail
    go_ret
    exact ⟨congrArg (fun b => Ending.returned (.bool b)) (show false = blankS true false false false false true true false m.m by unfold blankS; rw [Z1.out]; simp), HB.out⟩
  have Z1 := Lib.hid (show (m.m.ins == 0) = true by simpa using h1)
  have z1 := Z1.out
  clear h1
  iterate 7 (refine wl_do (by kernel_rfl) (fun K hK => ?_); go_simp; refine hK _ _ ?_; clear hK K)
  refine wl_do (by kernel_rfl) (fun K hK => ?_)
  go_simp
  refine (S115 _).mono ?_
  rintro e w' ⟨rfl, rfl⟩
  go_simp
  refine hK _ _ ?_
  clear hK K
  refine wl_do (by kernel_rfl) (fun K hK => ?_)
  go_simp
  refine hK _ _ ?_
  clear hK K
  by_cases h2 : m.m.sq = 0
  case neg =>
    have Z2 := Lib.hid (show (m.m.sq == 0) = false by simpa using h2)
    have z2 := Z2.out
    clear h2
    iterate 6 (refine wl_do (by kernel_rfl) (fun K hK => ?_); go_simp; refine hK _ _ ?_; clear hK K)
    iterate 7 (refine wl_skip (by kernel_rfl) ?_)
    iterate 2 (refine wl_do (by kernel_rfl) (fun K hK => ?_); go_simp; refine hK _ _ ?_; clear hK K)
    iterate 8 (refine wl_skip (by kernel_rfl) ?_)
    iterate 2 (refine wl_do (by kernel_rfl) (fun K hK => ?_); go_simp; refine hK _ _ ?_; clear hK K)
    iterate 8 (refine wl_skip (by kernel_rfl) ?_)
    iterate 2 (refine wl_do (by kernel_rfl) (fun K hK => ?_); go_simp; refine hK _ _ ?_; clear hK K)
    iterate 8 (refine wl_skip (by kernel_rfl) ?_)
    iterate 2 (refine wl_do (by kernel_rfl) (fun K hK => ?_); go_simp; refine hK _ _ ?_; clear hK K)
    iterate 8 (refine wl_skip (by kernel_rfl) ?_)
    iterate 2 (refine wl_do (by kernel_rfl) (fun K hK => ?_); go_simp; refine hK _ _ ?_; clear hK K)
    refine wl_nil ?_
    clear S118 S105 S115 S114 S98 S111 S99 S112
    go_wp2_with fail
    go_ret
    exact ⟨congrArg (fun b => Ending.returned (.bool b)) (show false = blankS true false false false false true true false m.m by unfold blankS; rw [Z2.out]; simp), HB.out⟩
  have Z2 := Lib.hid (show (m.m.sq == 0) = true by simpa using h2)
  have z2 := Z2.out
  clear h2
  iterate 7 (refine wl_do (by kernel_rfl) (fun K hK => ?_); go_simp; refine hK _ _ ?_; clear hK K)
  refine wl_do (by kernel_rfl) (fun K hK => ?_)
  go_simp
  refine (S114 _).mono ?_
  rintro e w' ⟨rfl, rfl⟩
  go_simp
  refine hK _ _ ?_
  clear hK K
  refine wl_do (by kernel_rfl) (fun K hK => ?_)
  go_simp
  refine hK _ _ ?_
  clear hK K
  by_cases h3 : m.m.rs = 0
  case neg =>
    have Z3 := Lib.hid (show (m.m.rs == 0) = false by simpa using h3)
    have z3 := Z3.out
    clear h3
    iterate 6 (refine wl_do (by kernel_rfl) (fun K hK => ?_); go_simp; refine hK _ _ ?_; clear hK K)
    iterate 8 (refine wl_skip (by kernel_rfl) ?_)
    iterate 2 (refine wl_do (by kernel_rfl) (fun K hK => ?_); go_simp; refine hK _ _ ?_; clear hK K)
    iterate 8 (refine wl_skip (by kernel_rfl) ?_)
    iterate 2 (refine wl_do (by kernel_rfl) (fun K hK => ?_); go_simp; refine hK _ _ ?_; clear hK K)
    iterate 8 (refine wl_skip (by kernel_rfl) ?_)
    iterate 2 (refine wl_do (by kernel_rfl) (fun K hK => ?_); go_simp; refine hK _ _ ?_; clear hK K)
    iterate 8 (refine wl_skip (by kernel_rfl) ?_)
    iterate 2 (refine wl_do (by kernel_rfl) (fun K hK => ?_); go_simp; refine hK _ _ ?_; clear hK K)
    refine wl_nil ?_
    clear S118 S105 S115 S114 S98 S111 S99 S112
    go_wp2_with fail
    go_ret
    exact ⟨congrArg (fun b => Ending.returned (.bool b)) (show false = blankS true false false false false true true false m.m by unfold blankS; rw [Z3.out]; simp), HB.out⟩
  have Z3 := Lib.hid (show (m.m.rs == 0) = true by simpa using h3)
  have z3 := Z3.out
  clear h3
  iterate 7 (refine wl_do (by kernel_rfl) (fun K hK => ?_); go_simp; refine hK _ _ ?_; clear hK K)
  refine wl_do (by kernel_rfl) (fun K hK => ?_)
  go_simp
  refine (S98 _).mono ?_
  rintro e w' ⟨rfl, rfl⟩
  go_simp
  refine hK _ _ ?_
  clear hK K
  refine wl_do (by kernel_rfl) (fun K hK => ?_)
  go_simp
  refine hK _ _ ?_
  clear hK K
  by_cases h4 : m.m.bt.length = 0
  case neg =>
    have Z4 := Lib.hid (show (m.m.bt.length == 0) = false by simpa using h4)
    have z4 : ((m.m.bt.length : Int) == 0) = false := by rw [beq_eq_false_iff_ne]; omega
    have y4 := Z4.out
    clear h4
    iterate 7 (refine wl_do (by kernel_rfl) (fun K hK => ?_); go_simp; refine hK _ _ ?_; clear hK K)
    iterate 8 (refine wl_skip (by kernel_rfl) ?_)
    iterate 2 (refine wl_do (by kernel_rfl) (fun K hK => ?_); go_simp; refine hK _ _ ?_; clear hK K)
    iterate 8 (refine wl_skip (by kernel_rfl) ?_)
    iterate 2 (refine wl_do (by kernel_rfl) (fun K hK => ?_); go_simp; refine hK _ _ ?_; clear hK K)
    iterate 8 (refine wl_skip (by kernel_rfl) ?_)
    iterate 2 (refine wl_do (by kernel_rfl) (fun K hK => ?_); go_simp; refine hK _ _ ?_; clear hK K)
    refine wl_nil ?_
    clear S118 S105 S115 S114 S98 S111 S99 S112
    go_wp2_with fail
    go_ret
    exact ⟨congrArg (fun b => Ending.returned (.bool b)) (show false = blankS true false false false false true true false m.m by unfold blankS; rw [Z4.out]; simp), HB.out⟩
  have Z4 := Lib.hid (show (m.m.bt.length == 0) = true by simpa using h4)
  have z4 : ((m.m.bt.length : Int) == 0) = true := by rw [beq_iff_eq]; omega
  have y4 := Z4.out
  clear h4
  iterate 8 (refine wl_do (by kernel_rfl) (fun K hK => ?_); go_simp; refine hK _ _ ?_; clear hK K)
  refine wl_do (by kernel_rfl) (fun K hK => ?_)
  go_simp
  refine (S111 _).mono ?_
  rintro e w' ⟨rfl, rfl⟩
  go_simp
  refine hK _ _ ?_
  clear hK K
  refine wl_do (by kernel_rfl) (fun K hK => ?_)
  go_simp
  refine hK _ _ ?_
  clear hK K
  iterate 4 (refine wl_skip (by kernel_rfl) ?_)
  iterate 4 (refine wl_do (by kernel_rfl) (fun K hK => ?_); go_simp; refine hK _ _ ?_; clear hK K)
  refine wl_do (by kernel_rfl) (fun K hK => ?_)
  go_simp
  refine (S99 _).mono ?_
  rintro e w' ⟨rfl, rfl⟩
  go_simp
  refine hK _ _ ?_
  clear hK K
  refine wl_do (by kernel_rfl) (fun K hK => ?_)
  go_simp
  refine hK _ _ ?_
  clear hK K
  iterate 4 (refine wl_skip (by kernel_rfl) ?_)
  iterate 4 (refine wl_do (by kernel_rfl) (fun K hK => ?_); go_simp; refine hK _ _ ?_; clear hK K)
  refine wl_do (by kernel_rfl) (fun K hK => ?_)
  go_simp
  refine (S112 _).mono ?_
  rintro e w' ⟨rfl, rfl⟩
  go_simp
  refine hK _ _ ?_
  clear hK K
  refine wl_do (by kernel_rfl) (fun K hK => ?_)
  go_simp
  refine hK _ _ ?_
  clear hK K
  by_cases h7 : m.m.ps.length = 0
  case neg =>
    have Z7 := Lib.hid (show (m.m.ps.length == 0) = false by simpa using h7)
    have z7 : ((m.m.ps.length : Int) == 0) = false := by rw [beq_eq_false_iff_ne]; omega
    have y7 := Z7.out
    clear h7
    iterate 7 (refine wl_do (by kernel_rfl) (fun K hK => ?_); go_simp; refine hK _ _ ?_; clear hK K)
    refine wl_nil ?_
    clear S118 S105 S115 S114 S98 S111 S99 S112
    go_wp2_with fail
    go_ret
    exact ⟨congrArg (fun b => Ending.returned (.bool b)) (show false = blankS true false false false false true true false m.m by unfold blankS; rw [Z7.out]; simp), HB.out⟩
  have Z7 := Lib.hid (show (m.m.ps.length == 0) = true by simpa using h7)
  have z7 : ((m.m.ps.length : Int) == 0) = true := by rw [beq_iff_eq]; omega
  have y7 := Z7.out
  clear h7
  iterate 7 (refine wl_do (by kernel_rfl) (fun K hK => ?_); go_simp; refine hK _ _ ?_; clear hK K)
  refine wl_nil ?_
  clear S118 S105 S115 S114 S98 S111 S99 S112
  go_wp2_with fail
  go_ret
  exact ⟨congrArg (fun b => Ending.returned (.bool b)) (show true = blankS true false false false false true true false m.m by unfold blankS; rw [Z1.out, Z2.out, Z3.out, Z4.out, Z7.out]; rfl), HB.out⟩
end Go.Proofs.YtbegjadohamkkaaGreat
/- The contract of the document's blank where the text names vip. -/
namespace Go.Proofs.YtbegjadohamkkaaGreat
open Go.RowKit

set_option maxHeartbeats 8000000 in
set_option maxRecDepth 100000 in
theorem rblank_vip (m : Ms) (w : World) :
    Calls Tryz.prog 79 #[.agg #[.int .i64 m.m.kd, .int .i64 m.m.fr, .int .i64 m.m.vw, .int .i64 m.m.ins, .int .i64 m.m.sq, .int .i64 m.m.rs, .slice m.A1 m.m.bt.length m.c1, .slice m.A2 m.m.vs.length m.c2, .slice m.A3 m.m.cs.length m.c3, .slice m.A4 m.m.ps.length m.c4], .string ⟨#[118, 105, 112]⟩] w fun e w' => e = .returned (.bool (blankS true true false false false false false true m.m)) ∧ Below w.heap.size w w' := by
  have HB := Lib.hid (show Below w.heap.size w (w.alloc (.cells #[.int .i64 m.m.kd, .int .i64 m.m.fr, .int .i64 m.m.vw, .int .i64 m.m.ins, .int .i64 m.m.sq, .int .i64 m.m.rs, .slice m.A1 m.m.bt.length m.c1, .slice m.A2 m.m.vs.length m.c2, .slice m.A3 m.m.cs.length m.c3, .slice m.A4 m.m.ps.length m.c4] 38)) from (Below.refl _ w).alloc (Nat.le_refl _) _)
  have S118 : ∀ w : World, Calls Tryz.prog 128 #[.string ⟨#[118, 105, 112]⟩, .int .u8 118] w fun e w' => e = .returned (.bool true) ∧ w' = w := fun w => (rsign_any ⟨#[118, 105, 112]⟩ 118 (by decide) w).mono (fun e w' h => ⟨h.1.trans (by rfl), h.2⟩)
  have S105 : ∀ w : World, Calls Tryz.prog 128 #[.string ⟨#[118, 105, 112]⟩, .int .u8 105] w fun e w' => e = .returned (.bool true) ∧ w' = w := fun w => (rsign_any ⟨#[118, 105, 112]⟩ 105 (by decide) w).mono (fun e w' h => ⟨h.1.trans (by rfl), h.2⟩)
  have S115 : ∀ w : World, Calls Tryz.prog 128 #[.string ⟨#[118, 105, 112]⟩, .int .u8 115] w fun e w' => e = .returned (.bool false) ∧ w' = w := fun w => (rsign_any ⟨#[118, 105, 112]⟩ 115 (by decide) w).mono (fun e w' h => ⟨h.1.trans (by rfl), h.2⟩)
  have S114 : ∀ w : World, Calls Tryz.prog 128 #[.string ⟨#[118, 105, 112]⟩, .int .u8 114] w fun e w' => e = .returned (.bool false) ∧ w' = w := fun w => (rsign_any ⟨#[118, 105, 112]⟩ 114 (by decide) w).mono (fun e w' h => ⟨h.1.trans (by rfl), h.2⟩)
  have S98 : ∀ w : World, Calls Tryz.prog 128 #[.string ⟨#[118, 105, 112]⟩, .int .u8 98] w fun e w' => e = .returned (.bool false) ∧ w' = w := fun w => (rsign_any ⟨#[118, 105, 112]⟩ 98 (by decide) w).mono (fun e w' h => ⟨h.1.trans (by rfl), h.2⟩)
  have S111 : ∀ w : World, Calls Tryz.prog 128 #[.string ⟨#[118, 105, 112]⟩, .int .u8 111] w fun e w' => e = .returned (.bool false) ∧ w' = w := fun w => (rsign_any ⟨#[118, 105, 112]⟩ 111 (by decide) w).mono (fun e w' h => ⟨h.1.trans (by rfl), h.2⟩)
  have S99 : ∀ w : World, Calls Tryz.prog 128 #[.string ⟨#[118, 105, 112]⟩, .int .u8 99] w fun e w' => e = .returned (.bool false) ∧ w' = w := fun w => (rsign_any ⟨#[118, 105, 112]⟩ 99 (by decide) w).mono (fun e w' h => ⟨h.1.trans (by rfl), h.2⟩)
  have S112 : ∀ w : World, Calls Tryz.prog 128 #[.string ⟨#[118, 105, 112]⟩, .int .u8 112] w fun e w' => e = .returned (.bool true) ∧ w' = w := fun w => (rsign_any ⟨#[118, 105, 112]⟩ 112 (by decide) w).mono (fun e w' h => ⟨h.1.trans (by rfl), h.2⟩)
  go_enter Tryz.func79, Tryz.ntmps79
  go_upto_region 1 with fail
  refine wp_region_lit ?_
  refine wl_out ?_
  refine wl_do (by kernel_rfl) (fun K hK => ?_)
  go_simp
  refine hK _ _ ?_
  clear hK K
  refine wl_do (by kernel_rfl) (fun K hK => ?_)
  go_simp
  refine (S118 _).mono ?_
  rintro e w' ⟨rfl, rfl⟩
  go_simp
  refine hK _ _ ?_
  clear hK K
  refine wl_do (by kernel_rfl) (fun K hK => ?_)
  go_simp
  refine hK _ _ ?_
  clear hK K
  iterate 3 (refine wl_skip (by kernel_rfl) ?_)
  iterate 3 (refine wl_do (by kernel_rfl) (fun K hK => ?_); go_simp; refine hK _ _ ?_; clear hK K)
  refine wl_do (by kernel_rfl) (fun K hK => ?_)
  go_simp
  refine (S105 _).mono ?_
  rintro e w' ⟨rfl, rfl⟩
  go_simp
  refine hK _ _ ?_
  clear hK K
  refine wl_do (by kernel_rfl) (fun K hK => ?_)
  go_simp
  refine hK _ _ ?_
  clear hK K
  iterate 3 (refine wl_skip (by kernel_rfl) ?_)
  iterate 4 (refine wl_do (by kernel_rfl) (fun K hK => ?_); go_simp; refine hK _ _ ?_; clear hK K)
  refine wl_do (by kernel_rfl) (fun K hK => ?_)
  go_simp
  refine (S115 _).mono ?_
  rintro e w' ⟨rfl, rfl⟩
  go_simp
  refine hK _ _ ?_
  clear hK K
  refine wl_do (by kernel_rfl) (fun K hK => ?_)
  go_simp
  refine hK _ _ ?_
  clear hK K
  by_cases h2 : m.m.sq = 0
  case neg =>
    have Z2 := Lib.hid (show (m.m.sq == 0) = false by simpa using h2)
    have z2 := Z2.out
    clear h2
    iterate 6 (refine wl_do (by kernel_rfl) (fun K hK => ?_); go_simp; refine hK _ _ ?_; clear hK K)
    iterate 7 (refine wl_skip (by kernel_rfl) ?_)
    iterate 2 (refine wl_do (by kernel_rfl) (fun K hK => ?_); go_simp; refine hK _ _ ?_; clear hK K)
    iterate 8 (refine wl_skip (by kernel_rfl) ?_)
    iterate 2 (refine wl_do (by kernel_rfl) (fun K hK => ?_); go_simp; refine hK _ _ ?_; clear hK K)
    iterate 8 (refine wl_skip (by kernel_rfl) ?_)
    iterate 2 (refine wl_do (by kernel_rfl) (fun K hK => ?_); go_simp; refine hK _ _ ?_; clear hK K)
    iterate 8 (refine wl_skip (by kernel_rfl) ?_)
    iterate 2 (refine wl_do (by kernel_rfl) (fun K hK => ?_); go_simp; refine hK _ _ ?_; clear hK K)
    iterate 8 (refine wl_skip (by kernel_rfl) ?_)
    iterate 2 (refine wl_do (by kernel_rfl) (fun K hK => ?_); go_simp; refine hK _ _ ?_; clear hK K)
    refine wl_nil ?_
    clear S118 S105 S115 S114 S98 S111 S99 S112
    go_wp2_with fail
    go_ret
    exact ⟨congrArg (fun b => Ending.returned (.bool b)) (show false = blankS true true false false false false false true m.m by unfold blankS; rw [Z2.out]; simp), HB.out⟩
  have Z2 := Lib.hid (show (m.m.sq == 0) = true by simpa using h2)
  have z2 := Z2.out
  clear h2
  iterate 7 (refine wl_do (by kernel_rfl) (fun K hK => ?_); go_simp; refine hK _ _ ?_; clear hK K)
  refine wl_do (by kernel_rfl) (fun K hK => ?_)
  go_simp
  refine (S114 _).mono ?_
  rintro e w' ⟨rfl, rfl⟩
  go_simp
  refine hK _ _ ?_
  clear hK K
  refine wl_do (by kernel_rfl) (fun K hK => ?_)
  go_simp
  refine hK _ _ ?_
  clear hK K
  by_cases h3 : m.m.rs = 0
  case neg =>
    have Z3 := Lib.hid (show (m.m.rs == 0) = false by simpa using h3)
    have z3 := Z3.out
    clear h3
    iterate 6 (refine wl_do (by kernel_rfl) (fun K hK => ?_); go_simp; refine hK _ _ ?_; clear hK K)
    iterate 8 (refine wl_skip (by kernel_rfl) ?_)
    iterate 2 (refine wl_do (by kernel_rfl) (fun K hK => ?_); go_simp; refine hK _ _ ?_; clear hK K)
    iterate 8 (refine wl_skip (by kernel_rfl) ?_)
    iterate 2 (refine wl_do (by kernel_rfl) (fun K hK => ?_); go_simp; refine hK _ _ ?_; clear hK K)
    iterate 8 (refine wl_skip (by kernel_rfl) ?_)
    iterate 2 (refine wl_do (by kernel_rfl) (fun K hK => ?_); go_simp; refine hK _ _ ?_; clear hK K)
    iterate 8 (refine wl_skip (by kernel_rfl) ?_)
    iterate 2 (refine wl_do (by kernel_rfl) (fun K hK => ?_); go_simp; refine hK _ _ ?_; clear hK K)
    refine wl_nil ?_
    clear S118 S105 S115 S114 S98 S111 S99 S112
    go_wp2_with fail
    go_ret
    exact ⟨congrArg (fun b => Ending.returned (.bool b)) (show false = blankS true true false false false false false true m.m by unfold blankS; rw [Z3.out]; simp), HB.out⟩
  have Z3 := Lib.hid (show (m.m.rs == 0) = true by simpa using h3)
  have z3 := Z3.out
  clear h3
  iterate 7 (refine wl_do (by kernel_rfl) (fun K hK => ?_); go_simp; refine hK _ _ ?_; clear hK K)
  refine wl_do (by kernel_rfl) (fun K hK => ?_)
  go_simp
  refine (S98 _).mono ?_
  rintro e w' ⟨rfl, rfl⟩
  go_simp
  refine hK _ _ ?_
  clear hK K
  refine wl_do (by kernel_rfl) (fun K hK => ?_)
  go_simp
  refine hK _ _ ?_
  clear hK K
  by_cases h4 : m.m.bt.length = 0
  case neg =>
    have Z4 := Lib.hid (show (m.m.bt.length == 0) = false by simpa using h4)
    have z4 : ((m.m.bt.length : Int) == 0) = false := by rw [beq_eq_false_iff_ne]; omega
    have y4 := Z4.out
    clear h4
    iterate 7 (refine wl_do (by kernel_rfl) (fun K hK => ?_); go_simp; refine hK _ _ ?_; clear hK K)
    iterate 8 (refine wl_skip (by kernel_rfl) ?_)
    iterate 2 (refine wl_do (by kernel_rfl) (fun K hK => ?_); go_simp; refine hK _ _ ?_; clear hK K)
    iterate 8 (refine wl_skip (by kernel_rfl) ?_)
    iterate 2 (refine wl_do (by kernel_rfl) (fun K hK => ?_); go_simp; refine hK _ _ ?_; clear hK K)
    iterate 8 (refine wl_skip (by kernel_rfl) ?_)
    iterate 2 (refine wl_do (by kernel_rfl) (fun K hK => ?_); go_simp; refine hK _ _ ?_; clear hK K)
    refine wl_nil ?_
    clear S118 S105 S115 S114 S98 S111 S99 S112
    go_wp2_with fail
    go_ret
    exact ⟨congrArg (fun b => Ending.returned (.bool b)) (show false = blankS true true false false false false false true m.m by unfold blankS; rw [Z4.out]; simp), HB.out⟩
  have Z4 := Lib.hid (show (m.m.bt.length == 0) = true by simpa using h4)
  have z4 : ((m.m.bt.length : Int) == 0) = true := by rw [beq_iff_eq]; omega
  have y4 := Z4.out
  clear h4
  iterate 8 (refine wl_do (by kernel_rfl) (fun K hK => ?_); go_simp; refine hK _ _ ?_; clear hK K)
  refine wl_do (by kernel_rfl) (fun K hK => ?_)
  go_simp
  refine (S111 _).mono ?_
  rintro e w' ⟨rfl, rfl⟩
  go_simp
  refine hK _ _ ?_
  clear hK K
  refine wl_do (by kernel_rfl) (fun K hK => ?_)
  go_simp
  refine hK _ _ ?_
  clear hK K
  by_cases h5 : m.m.vs.length = 0
  case neg =>
    have Z5 := Lib.hid (show (m.m.vs.length == 0) = false by simpa using h5)
    have z5 : ((m.m.vs.length : Int) == 0) = false := by rw [beq_eq_false_iff_ne]; omega
    have y5 := Z5.out
    clear h5
    iterate 7 (refine wl_do (by kernel_rfl) (fun K hK => ?_); go_simp; refine hK _ _ ?_; clear hK K)
    iterate 8 (refine wl_skip (by kernel_rfl) ?_)
    iterate 2 (refine wl_do (by kernel_rfl) (fun K hK => ?_); go_simp; refine hK _ _ ?_; clear hK K)
    iterate 8 (refine wl_skip (by kernel_rfl) ?_)
    iterate 2 (refine wl_do (by kernel_rfl) (fun K hK => ?_); go_simp; refine hK _ _ ?_; clear hK K)
    refine wl_nil ?_
    clear S118 S105 S115 S114 S98 S111 S99 S112
    go_wp2_with fail
    go_ret
    exact ⟨congrArg (fun b => Ending.returned (.bool b)) (show false = blankS true true false false false false false true m.m by unfold blankS; rw [Z5.out]; simp), HB.out⟩
  have Z5 := Lib.hid (show (m.m.vs.length == 0) = true by simpa using h5)
  have z5 : ((m.m.vs.length : Int) == 0) = true := by rw [beq_iff_eq]; omega
  have y5 := Z5.out
  clear h5
  iterate 8 (refine wl_do (by kernel_rfl) (fun K hK => ?_); go_simp; refine hK _ _ ?_; clear hK K)
  refine wl_do (by kernel_rfl) (fun K hK => ?_)
  go_simp
  refine (S99 _).mono ?_
  rintro e w' ⟨rfl, rfl⟩
  go_simp
  refine hK _ _ ?_
  clear hK K
  refine wl_do (by kernel_rfl) (fun K hK => ?_)
  go_simp
  refine hK _ _ ?_
  clear hK K
  by_cases h6 : m.m.cs.length = 0
  case neg =>
    have Z6 := Lib.hid (show (m.m.cs.length == 0) = false by simpa using h6)
    have z6 : ((m.m.cs.length : Int) == 0) = false := by rw [beq_eq_false_iff_ne]; omega
    have y6 := Z6.out
    clear h6
    iterate 7 (refine wl_do (by kernel_rfl) (fun K hK => ?_); go_simp; refine hK _ _ ?_; clear hK K)
    iterate 8 (refine wl_skip (by kernel_rfl) ?_)
    iterate 2 (refine wl_do (by kernel_rfl) (fun K hK => ?_); go_simp; refine hK _ _ ?_; clear hK K)
    refine wl_nil ?_
    clear S118 S105 S115 S114 S98 S111 S99 S112
    go_wp2_with fail
    go_ret
    exact ⟨congrArg (fun b => Ending.returned (.bool b)) (show false = blankS true true false false false false false true m.m by unfold blankS; rw [Z6.out]; simp), HB.out⟩
  have Z6 := Lib.hid (show (m.m.cs.length == 0) = true by simpa using h6)
  have z6 : ((m.m.cs.length : Int) == 0) = true := by rw [beq_iff_eq]; omega
  have y6 := Z6.out
  clear h6
  iterate 8 (refine wl_do (by kernel_rfl) (fun K hK => ?_); go_simp; refine hK _ _ ?_; clear hK K)
  refine wl_do (by kernel_rfl) (fun K hK => ?_)
  go_simp
  refine (S112 _).mono ?_
  rintro e w' ⟨rfl, rfl⟩
  go_simp
  refine hK _ _ ?_
  clear hK K
  refine wl_do (by kernel_rfl) (fun K hK => ?_)
  go_simp
  refine hK _ _ ?_
  clear hK K
  iterate 4 (refine wl_skip (by kernel_rfl) ?_)
  iterate 3 (refine wl_do (by kernel_rfl) (fun K hK => ?_); go_simp; refine hK _ _ ?_; clear hK K)
  refine wl_nil ?_
  clear S118 S105 S115 S114 S98 S111 S99 S112
  go_wp2_with fail
  go_ret
  exact ⟨congrArg (fun b => Ending.returned (.bool b)) (show true = blankS true true false false false false false true m.m by unfold blankS; rw [Z2.out, Z3.out, Z4.out, Z5.out, Z6.out]; rfl), HB.out⟩
end Go.Proofs.YtbegjadohamkkaaGreat
/- The contract of the document's blank where the text names isr. -/
namespace Go.Proofs.YtbegjadohamkkaaGreat
open Go.RowKit

set_option maxHeartbeats 8000000 in
set_option maxRecDepth 100000 in
theorem rblank_isr (m : Ms) (w : World) :
    Calls Tryz.prog 79 #[.agg #[.int .i64 m.m.kd, .int .i64 m.m.fr, .int .i64 m.m.vw, .int .i64 m.m.ins, .int .i64 m.m.sq, .int .i64 m.m.rs, .slice m.A1 m.m.bt.length m.c1, .slice m.A2 m.m.vs.length m.c2, .slice m.A3 m.m.cs.length m.c3, .slice m.A4 m.m.ps.length m.c4], .string ⟨#[105, 115, 114]⟩] w fun e w' => e = .returned (.bool (blankS false true true true false false false false m.m)) ∧ Below w.heap.size w w' := by
  have HB := Lib.hid (show Below w.heap.size w (w.alloc (.cells #[.int .i64 m.m.kd, .int .i64 m.m.fr, .int .i64 m.m.vw, .int .i64 m.m.ins, .int .i64 m.m.sq, .int .i64 m.m.rs, .slice m.A1 m.m.bt.length m.c1, .slice m.A2 m.m.vs.length m.c2, .slice m.A3 m.m.cs.length m.c3, .slice m.A4 m.m.ps.length m.c4] 38)) from (Below.refl _ w).alloc (Nat.le_refl _) _)
  have S118 : ∀ w : World, Calls Tryz.prog 128 #[.string ⟨#[105, 115, 114]⟩, .int .u8 118] w fun e w' => e = .returned (.bool false) ∧ w' = w := fun w => (rsign_any ⟨#[105, 115, 114]⟩ 118 (by decide) w).mono (fun e w' h => ⟨h.1.trans (by rfl), h.2⟩)
  have S105 : ∀ w : World, Calls Tryz.prog 128 #[.string ⟨#[105, 115, 114]⟩, .int .u8 105] w fun e w' => e = .returned (.bool true) ∧ w' = w := fun w => (rsign_any ⟨#[105, 115, 114]⟩ 105 (by decide) w).mono (fun e w' h => ⟨h.1.trans (by rfl), h.2⟩)
  have S115 : ∀ w : World, Calls Tryz.prog 128 #[.string ⟨#[105, 115, 114]⟩, .int .u8 115] w fun e w' => e = .returned (.bool true) ∧ w' = w := fun w => (rsign_any ⟨#[105, 115, 114]⟩ 115 (by decide) w).mono (fun e w' h => ⟨h.1.trans (by rfl), h.2⟩)
  have S114 : ∀ w : World, Calls Tryz.prog 128 #[.string ⟨#[105, 115, 114]⟩, .int .u8 114] w fun e w' => e = .returned (.bool true) ∧ w' = w := fun w => (rsign_any ⟨#[105, 115, 114]⟩ 114 (by decide) w).mono (fun e w' h => ⟨h.1.trans (by rfl), h.2⟩)
  have S98 : ∀ w : World, Calls Tryz.prog 128 #[.string ⟨#[105, 115, 114]⟩, .int .u8 98] w fun e w' => e = .returned (.bool false) ∧ w' = w := fun w => (rsign_any ⟨#[105, 115, 114]⟩ 98 (by decide) w).mono (fun e w' h => ⟨h.1.trans (by rfl), h.2⟩)
  have S111 : ∀ w : World, Calls Tryz.prog 128 #[.string ⟨#[105, 115, 114]⟩, .int .u8 111] w fun e w' => e = .returned (.bool false) ∧ w' = w := fun w => (rsign_any ⟨#[105, 115, 114]⟩ 111 (by decide) w).mono (fun e w' h => ⟨h.1.trans (by rfl), h.2⟩)
  have S99 : ∀ w : World, Calls Tryz.prog 128 #[.string ⟨#[105, 115, 114]⟩, .int .u8 99] w fun e w' => e = .returned (.bool false) ∧ w' = w := fun w => (rsign_any ⟨#[105, 115, 114]⟩ 99 (by decide) w).mono (fun e w' h => ⟨h.1.trans (by rfl), h.2⟩)
  have S112 : ∀ w : World, Calls Tryz.prog 128 #[.string ⟨#[105, 115, 114]⟩, .int .u8 112] w fun e w' => e = .returned (.bool false) ∧ w' = w := fun w => (rsign_any ⟨#[105, 115, 114]⟩ 112 (by decide) w).mono (fun e w' h => ⟨h.1.trans (by rfl), h.2⟩)
  go_enter Tryz.func79, Tryz.ntmps79
  go_upto_region 1 with fail
  refine wp_region_lit ?_
  refine wl_out ?_
  refine wl_do (by kernel_rfl) (fun K hK => ?_)
  go_simp
  refine hK _ _ ?_
  clear hK K
  refine wl_do (by kernel_rfl) (fun K hK => ?_)
  go_simp
  refine (S118 _).mono ?_
  rintro e w' ⟨rfl, rfl⟩
  go_simp
  refine hK _ _ ?_
  clear hK K
  refine wl_do (by kernel_rfl) (fun K hK => ?_)
  go_simp
  refine hK _ _ ?_
  clear hK K
  by_cases h0 : m.m.vw = 0
  case neg =>
    have Z0 := Lib.hid (show (m.m.vw == 0) = false by simpa using h0)
    have z0 := Z0.out
    clear h0
    iterate 5 (refine wl_do (by kernel_rfl) (fun K hK => ?_); go_simp; refine hK _ _ ?_; clear hK K)
    iterate 7 (refine wl_skip (by kernel_rfl) ?_)
    iterate 2 (refine wl_do (by kernel_rfl) (fun K hK => ?_); go_simp; refine hK _ _ ?_; clear hK K)
    iterate 7 (refine wl_skip (by kernel_rfl) ?_)
    iterate 2 (refine wl_do (by kernel_rfl) (fun K hK => ?_); go_simp; refine hK _ _ ?_; clear hK K)
    iterate 7 (refine wl_skip (by kernel_rfl) ?_)
    iterate 2 (refine wl_do (by kernel_rfl) (fun K hK => ?_); go_simp; refine hK _ _ ?_; clear hK K)
    iterate 8 (refine wl_skip (by kernel_rfl) ?_)
    iterate 2 (refine wl_do (by kernel_rfl) (fun K hK => ?_); go_simp; refine hK _ _ ?_; clear hK K)
    iterate 8 (refine wl_skip (by kernel_rfl) ?_)
    iterate 2 (refine wl_do (by kernel_rfl) (fun K hK => ?_); go_simp; refine hK _ _ ?_; clear hK K)
    iterate 8 (refine wl_skip (by kernel_rfl) ?_)
    iterate 2 (refine wl_do (by kernel_rfl) (fun K hK => ?_); go_simp; refine hK _ _ ?_; clear hK K)
    iterate 8 (refine wl_skip (by kernel_rfl) ?_)
    iterate 2 (refine wl_do (by kernel_rfl) (fun K hK => ?_); go_simp; refine hK _ _ ?_; clear hK K)
    refine wl_nil ?_
    clear S118 S105 S115 S114 S98 S111 S99 S112
    go_wp2_with fail
    go_ret
    exact ⟨congrArg (fun b => Ending.returned (.bool b)) (show false = blankS false true true true false false false false m.m by unfold blankS; rw [Z0.out]; simp), HB.out⟩
  have Z0 := Lib.hid (show (m.m.vw == 0) = true by simpa using h0)
  have z0 := Z0.out
  clear h0
  iterate 6 (refine wl_do (by kernel_rfl) (fun K hK => ?_); go_simp; refine hK _ _ ?_; clear hK K)
  refine wl_do (by kernel_rfl) (fun K hK => ?_)
  go_simp
  refine (S105 _).mono ?_
  rintro e w' ⟨rfl, rfl⟩
  go_simp
  refine hK _ _ ?_
  clear hK K
  refine wl_do (by kernel_rfl) (fun K hK => ?_)
  go_simp
  refine hK _ _ ?_
  clear hK K
  iterate 3 (refine wl_skip (by kernel_rfl) ?_)
  iterate 4 (refine wl_do (by kernel_rfl) (fun K hK => ?_); go_simp; refine hK _ _ ?_; clear hK K)
  refine wl_do (by kernel_rfl) (fun K hK => ?_)
  go_simp
  refine (S115 _).mono ?_
  rintro e w' ⟨rfl, rfl⟩
  go_simp
  refine hK _ _ ?_
  clear hK K
  refine wl_do (by kernel_rfl) (fun K hK => ?_)
  go_simp
  refine hK _ _ ?_
  clear hK K
  iterate 3 (refine wl_skip (by kernel_rfl) ?_)
  iterate 4 (refine wl_do (by kernel_rfl) (fun K hK => ?_); go_simp; refine hK _ _ ?_; clear hK K)
  refine wl_do (by kernel_rfl) (fun K hK => ?_)
  go_simp
  refine (S114 _).mono ?_
  rintro e w' ⟨rfl, rfl⟩
  go_simp
  refine hK _ _ ?_
  clear hK K
  refine wl_do (by kernel_rfl) (fun K hK => ?_)
  go_simp
  refine hK _ _ ?_
  clear hK K
  iterate 3 (refine wl_skip (by kernel_rfl) ?_)
  iterate 4 (refine wl_do (by kernel_rfl) (fun K hK => ?_); go_simp; refine hK _ _ ?_; clear hK K)
  refine wl_do (by kernel_rfl) (fun K hK => ?_)
  go_simp
  refine (S98 _).mono ?_
  rintro e w' ⟨rfl, rfl⟩
  go_simp
  refine hK _ _ ?_
  clear hK K
  refine wl_do (by kernel_rfl) (fun K hK => ?_)
  go_simp
  refine hK _ _ ?_
  clear hK K
  by_cases h4 : m.m.bt.length = 0
  case neg =>
    have Z4 := Lib.hid (show (m.m.bt.length == 0) = false by simpa using h4)
    have z4 : ((m.m.bt.length : Int) == 0) = false := by rw [beq_eq_false_iff_ne]; omega
    have y4 := Z4.out
    clear h4
    iterate 7 (refine wl_do (by kernel_rfl) (fun K hK => ?_); go_simp; refine hK _ _ ?_; clear hK K)
    iterate 8 (refine wl_skip (by kernel_rfl) ?_)
    iterate 2 (refine wl_do (by kernel_rfl) (fun K hK => ?_); go_simp; refine hK _ _ ?_; clear hK K)
    iterate 8 (refine wl_skip (by kernel_rfl) ?_)
    iterate 2 (refine wl_do (by kernel_rfl) (fun K hK => ?_); go_simp; refine hK _ _ ?_; clear hK K)
    iterate 8 (refine wl_skip (by kernel_rfl) ?_)
    iterate 2 (refine wl_do (by kernel_rfl) (fun K hK => ?_); go_simp; refine hK _ _ ?_; clear hK K)
    refine wl_nil ?_
    clear S118 S105 S115 S114 S98 S111 S99 S112
    go_wp2_with fail
    go_ret
    exact ⟨congrArg (fun b => Ending.returned (.bool b)) (show false = blankS false true true true false false false false m.m by unfold blankS; rw [Z4.out]; simp), HB.out⟩
  have Z4 := Lib.hid (show (m.m.bt.length == 0) = true by simpa using h4)
  have z4 : ((m.m.bt.length : Int) == 0) = true := by rw [beq_iff_eq]; omega
  have y4 := Z4.out
  clear h4
  iterate 8 (refine wl_do (by kernel_rfl) (fun K hK => ?_); go_simp; refine hK _ _ ?_; clear hK K)
  refine wl_do (by kernel_rfl) (fun K hK => ?_)
  go_simp
  refine (S111 _).mono ?_
  rintro e w' ⟨rfl, rfl⟩
  go_simp
  refine hK _ _ ?_
  clear hK K
  refine wl_do (by kernel_rfl) (fun K hK => ?_)
  go_simp
  refine hK _ _ ?_
  clear hK K
  by_cases h5 : m.m.vs.length = 0
  case neg =>
    have Z5 := Lib.hid (show (m.m.vs.length == 0) = false by simpa using h5)
    have z5 : ((m.m.vs.length : Int) == 0) = false := by rw [beq_eq_false_iff_ne]; omega
    have y5 := Z5.out
    clear h5
    iterate 7 (refine wl_do (by kernel_rfl) (fun K hK => ?_); go_simp; refine hK _ _ ?_; clear hK K)
    iterate 8 (refine wl_skip (by kernel_rfl) ?_)
    iterate 2 (refine wl_do (by kernel_rfl) (fun K hK => ?_); go_simp; refine hK _ _ ?_; clear hK K)
    iterate 8 (refine wl_skip (by kernel_rfl) ?_)
    iterate 2 (refine wl_do (by kernel_rfl) (fun K hK => ?_); go_simp; refine hK _ _ ?_; clear hK K)
    refine wl_nil ?_
    clear S118 S105 S115 S114 S98 S111 S99 S112
    go_wp2_with fail
    go_ret
    exact ⟨congrArg (fun b => Ending.returned (.bool b)) (show false = blankS false true true true false false false false m.m by unfold blankS; rw [Z5.out]; simp), HB.out⟩
  have Z5 := Lib.hid (show (m.m.vs.length == 0) = true by simpa using h5)
  have z5 : ((m.m.vs.length : Int) == 0) = true := by rw [beq_iff_eq]; omega
  have y5 := Z5.out
  clear h5
  iterate 8 (refine wl_do (by kernel_rfl) (fun K hK => ?_); go_simp; refine hK _ _ ?_; clear hK K)
  refine wl_do (by kernel_rfl) (fun K hK => ?_)
  go_simp
  refine (S99 _).mono ?_
  rintro e w' ⟨rfl, rfl⟩
  go_simp
  refine hK _ _ ?_
  clear hK K
  refine wl_do (by kernel_rfl) (fun K hK => ?_)
  go_simp
  refine hK _ _ ?_
  clear hK K
  by_cases h6 : m.m.cs.length = 0
  case neg =>
    have Z6 := Lib.hid (show (m.m.cs.length == 0) = false by simpa using h6)
    have z6 : ((m.m.cs.length : Int) == 0) = false := by rw [beq_eq_false_iff_ne]; omega
    have y6 := Z6.out
    clear h6
    iterate 7 (refine wl_do (by kernel_rfl) (fun K hK => ?_); go_simp; refine hK _ _ ?_; clear hK K)
    iterate 8 (refine wl_skip (by kernel_rfl) ?_)
    iterate 2 (refine wl_do (by kernel_rfl) (fun K hK => ?_); go_simp; refine hK _ _ ?_; clear hK K)
    refine wl_nil ?_
    clear S118 S105 S115 S114 S98 S111 S99 S112
    go_wp2_with fail
    go_ret
    exact ⟨congrArg (fun b => Ending.returned (.bool b)) (show false = blankS false true true true false false false false m.m by unfold blankS; rw [Z6.out]; simp), HB.out⟩
  have Z6 := Lib.hid (show (m.m.cs.length == 0) = true by simpa using h6)
  have z6 : ((m.m.cs.length : Int) == 0) = true := by rw [beq_iff_eq]; omega
  have y6 := Z6.out
  clear h6
  iterate 8 (refine wl_do (by kernel_rfl) (fun K hK => ?_); go_simp; refine hK _ _ ?_; clear hK K)
  refine wl_do (by kernel_rfl) (fun K hK => ?_)
  go_simp
  refine (S112 _).mono ?_
  rintro e w' ⟨rfl, rfl⟩
  go_simp
  refine hK _ _ ?_
  clear hK K
  refine wl_do (by kernel_rfl) (fun K hK => ?_)
  go_simp
  refine hK _ _ ?_
  clear hK K
  by_cases h7 : m.m.ps.length = 0
  case neg =>
    have Z7 := Lib.hid (show (m.m.ps.length == 0) = false by simpa using h7)
    have z7 : ((m.m.ps.length : Int) == 0) = false := by rw [beq_eq_false_iff_ne]; omega
    have y7 := Z7.out
    clear h7
    iterate 7 (refine wl_do (by kernel_rfl) (fun K hK => ?_); go_simp; refine hK _ _ ?_; clear hK K)
    refine wl_nil ?_
    clear S118 S105 S115 S114 S98 S111 S99 S112
    go_wp2_with fail
    go_ret
    exact ⟨congrArg (fun b => Ending.returned (.bool b)) (show false = blankS false true true true false false false false m.m by unfold blankS; rw [Z7.out]; simp), HB.out⟩
  have Z7 := Lib.hid (show (m.m.ps.length == 0) = true by simpa using h7)
  have z7 : ((m.m.ps.length : Int) == 0) = true := by rw [beq_iff_eq]; omega
  have y7 := Z7.out
  clear h7
  iterate 7 (refine wl_do (by kernel_rfl) (fun K hK => ?_); go_simp; refine hK _ _ ?_; clear hK K)
  refine wl_nil ?_
  clear S118 S105 S115 S114 S98 S111 S99 S112
  go_wp2_with fail
  go_ret
  exact ⟨congrArg (fun b => Ending.returned (.bool b)) (show true = blankS false true true true false false false false m.m by unfold blankS; rw [Z0.out, Z4.out, Z5.out, Z6.out, Z7.out]; rfl), HB.out⟩
end Go.Proofs.YtbegjadohamkkaaGreat
