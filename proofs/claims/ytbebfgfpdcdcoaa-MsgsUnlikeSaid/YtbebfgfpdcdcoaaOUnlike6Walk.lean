/- The walk of MsgsUnlike: it returns true for any two messages. -/
import Derived.Test.YtbebfgfpdcdcoaaOMsgWake
import Derived.Test.YtbebfgfpdcdcoaaOMsgHeavy
import Derived.Test.YtbebfgfpdcdcoaaOS6
import Derived.Test.YtbebfgfpdcdcoaaOS0
namespace Go.Proofs.Ytbebfgfpdcdcoaa
open Go.RowKit Go.Sort

theorem body_fewest {m : Mg} {bs : List Int} (h : bodyM m = some bs) : 10 ≤ bs.length := by
  have h1 := (body_parse (body_u8 h) (parse_body h)).2.1
  have h8 : 1 ≤ (listToks Ct.toks m.cs).length := by simp [listToks]
  have h9 : 1 ≤ (listToks Pt.toks m.ps).length := by simp [listToks]
  have h10 : 1 ≤ (listToks Rq.toks m.bt).length := by simp [listToks]
  have h11 : 1 ≤ (listToks Vt.toks m.vs).length := by simp [listToks]
  simp only [Mg.toks, Mg.head, List.length_append, List.length_cons, List.length_nil] at h1
  omega
theorem has_box (w : World) (v : Value) (t : TypeId) : Has (w.alloc (.cells #[v] t)) (w.heap.size + 1) (some ⟨w.heap.size, 0, none⟩) [v] := (Blk.new w t #[v]).has (Nat.lt_succ_self _)
theorem own_more0 {w : World} {b n : Nat} {v : Value} {zs : List Int} (h : w.ownsRow b 5 1 v (n + 1) (u8s zs ++ [.int .u8 0])) : w.ownsRow b 5 1 v (n + 1) (u8s (zs ++ [0])) := by
  rw [u8s_app]; exact h
set_option maxHeartbeats 4000000 in
set_option maxRecDepth 100000 in
theorem msgsUnlike_heavy (a b : Ms) (at0 : Int) (w : World) (ha : a.In w w.heap.size) (hb : b.In w w.heap.size) (h : heavyM a.m = true ∨ heavyM b.m = true) :
    Calls Try.prog 3 #[.agg #[.int .i64 a.m.kd, .int .i64 a.m.fr, .int .i64 a.m.vw, .int .i64 a.m.ins, .int .i64 a.m.sq, .int .i64 a.m.rs, .slice a.A1 a.m.bt.length a.c1, .slice a.A2 a.m.vs.length a.c2, .slice a.A3 a.m.cs.length a.c3, .slice a.A4 a.m.ps.length a.c4], .agg #[.int .i64 b.m.kd, .int .i64 b.m.fr, .int .i64 b.m.vw, .int .i64 b.m.ins, .int .i64 b.m.sq, .int .i64 b.m.rs, .slice b.A1 b.m.bt.length b.c1, .slice b.A2 b.m.vs.length b.c2, .slice b.A3 b.m.cs.length b.c3, .slice b.A4 b.m.ps.length b.c4], .int .i64 at0] w fun e w' => e = .returned (.bool true) ∧ Below w.heap.size w w' := by
  have hb0 : Below w.heap.size w ((w.alloc (.cells #[.int .i64 a.m.kd, .int .i64 a.m.fr, .int .i64 a.m.vw, .int .i64 a.m.ins, .int .i64 a.m.sq, .int .i64 a.m.rs, .slice a.A1 a.m.bt.length a.c1, .slice a.A2 a.m.vs.length a.c2, .slice a.A3 a.m.cs.length a.c3, .slice a.A4 a.m.ps.length a.c4] 27)).alloc (.cells #[.int .i64 b.m.kd, .int .i64 b.m.fr, .int .i64 b.m.vw, .int .i64 b.m.ins, .int .i64 b.m.sq, .int .i64 b.m.rs, .slice b.A1 b.m.bt.length b.c1, .slice b.A2 b.m.vs.length b.c2, .slice b.A3 b.m.cs.length b.c3, .slice b.A4 b.m.ps.length b.c4] 27)) := ((Below.refl _ w).alloc (Nat.le_refl _) _).alloc (by simp) _
  have HB0 := Lib.hid hb0
  have HA := Lib.hid ((ha.reads (Reads.below hb0 (Nat.le_refl _))).reads (Reads.more hb0.size))
  have HBi := Lib.hid ((hb.reads (Reads.below hb0 (Nat.le_refl _))).reads (Reads.more hb0.size))
  have HXb := Lib.hid (show Blk ((w.alloc (.cells #[.int .i64 a.m.kd, .int .i64 a.m.fr, .int .i64 a.m.vw, .int .i64 a.m.ins, .int .i64 a.m.sq, .int .i64 a.m.rs, .slice a.A1 a.m.bt.length a.c1, .slice a.A2 a.m.vs.length a.c2, .slice a.A3 a.m.cs.length a.c3, .slice a.A4 a.m.ps.length a.c4] 27)).alloc (.cells #[.int .i64 b.m.kd, .int .i64 b.m.fr, .int .i64 b.m.vw, .int .i64 b.m.ins, .int .i64 b.m.sq, .int .i64 b.m.rs, .slice b.A1 b.m.bt.length b.c1, .slice b.A2 b.m.vs.length b.c2, .slice b.A3 b.m.cs.length b.c3, .slice b.A4 b.m.ps.length b.c4] 27)) (w.heap.size + 1) 27 #[.int .i64 b.m.kd, .int .i64 b.m.fr, .int .i64 b.m.vw, .int .i64 b.m.ins, .int .i64 b.m.sq, .int .i64 b.m.rs, .slice b.A1 b.m.bt.length b.c1, .slice b.A2 b.m.vs.length b.c2, .slice b.A3 b.m.cs.length b.c3, .slice b.A4 b.m.ps.length b.c4] from Blk.new1 _ _ _ _)
  have HVa := Lib.hid (fun w h => heavy_msg a w h)
  have HVb := Lib.hid (fun w h => heavy_msg b w h)
  clear ha hb hb0
  cases h1 : heavyM a.m
  case true =>
    rw [h1] at HVa
    clear h h1
    go_enter Try.func3, Try.ntmps3
    go_wp2_with fail
    obtain ⟨w0, hw0⟩ : ∃ w0, ((w.alloc (.cells #[.int .i64 a.m.kd, .int .i64 a.m.fr, .int .i64 a.m.vw, .int .i64 a.m.ins, .int .i64 a.m.sq, .int .i64 a.m.rs, .slice a.A1 a.m.bt.length a.c1, .slice a.A2 a.m.vs.length a.c2, .slice a.A3 a.m.cs.length a.c3, .slice a.A4 a.m.ps.length a.c4] 27)).alloc (.cells #[.int .i64 b.m.kd, .int .i64 b.m.fr, .int .i64 b.m.vw, .int .i64 b.m.ins, .int .i64 b.m.sq, .int .i64 b.m.rs, .slice b.A1 b.m.bt.length b.c1, .slice b.A2 b.m.vs.length b.c2, .slice b.A3 b.m.cs.length b.c3, .slice b.A4 b.m.ps.length b.c4] 27)) = w0 := ⟨_, rfl⟩
    rw [hw0] at HB0 HA HBi HXb ⊢
    clear hw0
    refine (HVa.out _ HA.out).mono ?_
    rintro e w1 ⟨rfl, hb1⟩
    have HB1 := Lib.hid (HB0.out.trans (hb1.mono HB0.out.size))
    clear hb1
    go_wp2_with fail
    refine (wakes6_any _).mono ?_
    rintro e wz ⟨rfl, hbz⟩
    have HZ := Lib.hid (HB1.out.trans (hbz.mono HB1.out.size))
    clear hbz
    go_wp2_with fail
    go_ret
    exact ⟨rfl, HZ.out⟩
  case false =>
    have h2 : heavyM b.m = true := by rw [h1] at h; simpa using h
    rw [h1] at HVa
    rw [h2] at HVb
    clear h h1 h2
    go_enter Try.func3, Try.ntmps3
    go_wp2_with fail
    obtain ⟨w0, hw0⟩ : ∃ w0, ((w.alloc (.cells #[.int .i64 a.m.kd, .int .i64 a.m.fr, .int .i64 a.m.vw, .int .i64 a.m.ins, .int .i64 a.m.sq, .int .i64 a.m.rs, .slice a.A1 a.m.bt.length a.c1, .slice a.A2 a.m.vs.length a.c2, .slice a.A3 a.m.cs.length a.c3, .slice a.A4 a.m.ps.length a.c4] 27)).alloc (.cells #[.int .i64 b.m.kd, .int .i64 b.m.fr, .int .i64 b.m.vw, .int .i64 b.m.ins, .int .i64 b.m.sq, .int .i64 b.m.rs, .slice b.A1 b.m.bt.length b.c1, .slice b.A2 b.m.vs.length b.c2, .slice b.A3 b.m.cs.length b.c3, .slice b.A4 b.m.ps.length b.c4] 27)) = w0 := ⟨_, rfl⟩
    rw [hw0] at HB0 HA HBi HXb ⊢
    clear hw0
    refine (HVa.out _ HA.out).mono ?_
    rintro e w1 ⟨rfl, hb1⟩
    have HB1 := Lib.hid (HB0.out.trans (hb1.mono HB0.out.size))
    have e0 : World.cell? (w1) ⟨w.heap.size + 1, 0, none⟩ = some (.int .i64 b.m.kd) := (HXb.out.below hb1 HXb.out.lt).cell 0
    have e1 : World.cell? (w1) ⟨w.heap.size + 1, 1, none⟩ = some (.int .i64 b.m.fr) := (HXb.out.below hb1 HXb.out.lt).cell 1
    have e2 : World.cell? (w1) ⟨w.heap.size + 1, 2, none⟩ = some (.int .i64 b.m.vw) := (HXb.out.below hb1 HXb.out.lt).cell 2
    have e3 : World.cell? (w1) ⟨w.heap.size + 1, 3, none⟩ = some (.int .i64 b.m.ins) := (HXb.out.below hb1 HXb.out.lt).cell 3
    have e4 : World.cell? (w1) ⟨w.heap.size + 1, 4, none⟩ = some (.int .i64 b.m.sq) := (HXb.out.below hb1 HXb.out.lt).cell 4
    have e5 : World.cell? (w1) ⟨w.heap.size + 1, 5, none⟩ = some (.int .i64 b.m.rs) := (HXb.out.below hb1 HXb.out.lt).cell 5
    have e6 : World.cell? (w1) ⟨w.heap.size + 1, 6, none⟩ = some (.slice b.A1 b.m.bt.length b.c1) := (HXb.out.below hb1 HXb.out.lt).cell 6
    have e7 : World.cell? (w1) ⟨w.heap.size + 1, 7, none⟩ = some (.slice b.A2 b.m.vs.length b.c2) := (HXb.out.below hb1 HXb.out.lt).cell 7
    have e8 : World.cell? (w1) ⟨w.heap.size + 1, 8, none⟩ = some (.slice b.A3 b.m.cs.length b.c3) := (HXb.out.below hb1 HXb.out.lt).cell 8
    have e9 : World.cell? (w1) ⟨w.heap.size + 1, 9, none⟩ = some (.slice b.A4 b.m.ps.length b.c4) := (HXb.out.below hb1 HXb.out.lt).cell 9
    have HBi1 := Lib.hid ((HBi.out.reads (Reads.below hb1 (Nat.le_refl _))).reads (Reads.more hb1.size))
    clear hb1
    go_wp2_with fail
    clear e0 e1 e2 e3 e4 e5 e6 e7 e8 e9
    refine (HVb.out _ HBi1.out).mono ?_
    rintro e w2 ⟨rfl, hb2⟩
    have HB2 := Lib.hid (HB1.out.trans (hb2.mono HB1.out.size))
    clear hb2
    go_wp2_with fail
    refine (wakes6_any _).mono ?_
    rintro e wz ⟨rfl, hbz⟩
    have HZ := Lib.hid (HB2.out.trans (hbz.mono HB2.out.size))
    clear hbz
    go_wp2_with fail
    go_ret
    exact ⟨rfl, HZ.out⟩
set_option maxHeartbeats 8000000 in
set_option maxRecDepth 100000 in
theorem msgsUnlike_light (a b : Ms) (at0 : Int) (w : World) (ha : a.In w w.heap.size) (hb : b.In w w.heap.size) (h1 : heavyM a.m = false) (h2 : heavyM b.m = false) (f1 : -9223372036854775808 ≤ at0) (f2 : at0 ≤ 9223372036854775807) :
    Calls Try.prog 3 #[.agg #[.int .i64 a.m.kd, .int .i64 a.m.fr, .int .i64 a.m.vw, .int .i64 a.m.ins, .int .i64 a.m.sq, .int .i64 a.m.rs, .slice a.A1 a.m.bt.length a.c1, .slice a.A2 a.m.vs.length a.c2, .slice a.A3 a.m.cs.length a.c3, .slice a.A4 a.m.ps.length a.c4], .agg #[.int .i64 b.m.kd, .int .i64 b.m.fr, .int .i64 b.m.vw, .int .i64 b.m.ins, .int .i64 b.m.sq, .int .i64 b.m.rs, .slice b.A1 b.m.bt.length b.c1, .slice b.A2 b.m.vs.length b.c2, .slice b.A3 b.m.cs.length b.c3, .slice b.A4 b.m.ps.length b.c4], .int .i64 at0] w fun e w' => e = .returned (.bool true) ∧ Below w.heap.size w w' := by
  have hb0 : Below w.heap.size w ((w.alloc (.cells #[.int .i64 a.m.kd, .int .i64 a.m.fr, .int .i64 a.m.vw, .int .i64 a.m.ins, .int .i64 a.m.sq, .int .i64 a.m.rs, .slice a.A1 a.m.bt.length a.c1, .slice a.A2 a.m.vs.length a.c2, .slice a.A3 a.m.cs.length a.c3, .slice a.A4 a.m.ps.length a.c4] 27)).alloc (.cells #[.int .i64 b.m.kd, .int .i64 b.m.fr, .int .i64 b.m.vw, .int .i64 b.m.ins, .int .i64 b.m.sq, .int .i64 b.m.rs, .slice b.A1 b.m.bt.length b.c1, .slice b.A2 b.m.vs.length b.c2, .slice b.A3 b.m.cs.length b.c3, .slice b.A4 b.m.ps.length b.c4] 27)) := ((Below.refl _ w).alloc (Nat.le_refl _) _).alloc (by simp) _
  have HB0 := Lib.hid hb0
  have HA := Lib.hid ((ha.reads (Reads.below hb0 (Nat.le_refl _))).reads (Reads.more hb0.size))
  have HBi := Lib.hid ((hb.reads (Reads.below hb0 (Nat.le_refl _))).reads (Reads.more hb0.size))
  have HXa := Lib.hid (show Blk ((w.alloc (.cells #[.int .i64 a.m.kd, .int .i64 a.m.fr, .int .i64 a.m.vw, .int .i64 a.m.ins, .int .i64 a.m.sq, .int .i64 a.m.rs, .slice a.A1 a.m.bt.length a.c1, .slice a.A2 a.m.vs.length a.c2, .slice a.A3 a.m.cs.length a.c3, .slice a.A4 a.m.ps.length a.c4] 27)).alloc (.cells #[.int .i64 b.m.kd, .int .i64 b.m.fr, .int .i64 b.m.vw, .int .i64 b.m.ins, .int .i64 b.m.sq, .int .i64 b.m.rs, .slice b.A1 b.m.bt.length b.c1, .slice b.A2 b.m.vs.length b.c2, .slice b.A3 b.m.cs.length b.c3, .slice b.A4 b.m.ps.length b.c4] 27)) w.heap.size 27 #[.int .i64 a.m.kd, .int .i64 a.m.fr, .int .i64 a.m.vw, .int .i64 a.m.ins, .int .i64 a.m.sq, .int .i64 a.m.rs, .slice a.A1 a.m.bt.length a.c1, .slice a.A2 a.m.vs.length a.c2, .slice a.A3 a.m.cs.length a.c3, .slice a.A4 a.m.ps.length a.c4] from (Blk.new _ _ _).alloc _)
  have HXb := Lib.hid (show Blk ((w.alloc (.cells #[.int .i64 a.m.kd, .int .i64 a.m.fr, .int .i64 a.m.vw, .int .i64 a.m.ins, .int .i64 a.m.sq, .int .i64 a.m.rs, .slice a.A1 a.m.bt.length a.c1, .slice a.A2 a.m.vs.length a.c2, .slice a.A3 a.m.cs.length a.c3, .slice a.A4 a.m.ps.length a.c4] 27)).alloc (.cells #[.int .i64 b.m.kd, .int .i64 b.m.fr, .int .i64 b.m.vw, .int .i64 b.m.ins, .int .i64 b.m.sq, .int .i64 b.m.rs, .slice b.A1 b.m.bt.length b.c1, .slice b.A2 b.m.vs.length b.c2, .slice b.A3 b.m.cs.length b.c3, .slice b.A4 b.m.ps.length b.c4] 27)) (w.heap.size + 1) 27 #[.int .i64 b.m.kd, .int .i64 b.m.fr, .int .i64 b.m.vw, .int .i64 b.m.ins, .int .i64 b.m.sq, .int .i64 b.m.rs, .slice b.A1 b.m.bt.length b.c1, .slice b.A2 b.m.vs.length b.c2, .slice b.A3 b.m.cs.length b.c3, .slice b.A4 b.m.ps.length b.c4] from Blk.new1 _ _ _ _)
  have HVa := Lib.hid (fun w h => heavy_msg a w h)
  have HVb := Lib.hid (fun w h => heavy_msg b w h)
  rw [h1] at HVa
  rw [h2] at HVb
  have HSm := Lib.hid (light_ms h1)
  have ta := (light_toks h1).2
  have tb := (light_toks h2).2
  have ta2 : 6 * a.m.toks.length ≤ 70368744177664 := by omega
  have tb2 : 6 * b.m.toks.length ≤ 70368744177664 := by omega
  clear ha hb hb0 h1 h2 ta tb
  go_enter Try.func3, Try.ntmps3
  go_wp2_with fail
  obtain ⟨w0, hw0⟩ : ∃ w0, ((w.alloc (.cells #[.int .i64 a.m.kd, .int .i64 a.m.fr, .int .i64 a.m.vw, .int .i64 a.m.ins, .int .i64 a.m.sq, .int .i64 a.m.rs, .slice a.A1 a.m.bt.length a.c1, .slice a.A2 a.m.vs.length a.c2, .slice a.A3 a.m.cs.length a.c3, .slice a.A4 a.m.ps.length a.c4] 27)).alloc (.cells #[.int .i64 b.m.kd, .int .i64 b.m.fr, .int .i64 b.m.vw, .int .i64 b.m.ins, .int .i64 b.m.sq, .int .i64 b.m.rs, .slice b.A1 b.m.bt.length b.c1, .slice b.A2 b.m.vs.length b.c2, .slice b.A3 b.m.cs.length b.c3, .slice b.A4 b.m.ps.length b.c4] 27)) = w0 := ⟨_, rfl⟩
  rw [hw0] at HB0 HA HBi HXa HXb ⊢
  clear hw0
  refine (HVa.out _ HA.out).mono ?_
  rintro e w1 ⟨rfl, hb1⟩
  have HB1 := Lib.hid (HB0.out.trans (hb1.mono HB0.out.size))
  have HA1 := Lib.hid ((HA.out.reads (Reads.below hb1 (Nat.le_refl _))).reads (Reads.more hb1.size))
  have HBi1 := Lib.hid ((HBi.out.reads (Reads.below hb1 (Nat.le_refl _))).reads (Reads.more hb1.size))
  have HXa1 := Lib.hid (HXa.out.below hb1 HXa.out.lt)
  have HXb1 := Lib.hid (HXb.out.below hb1 HXb.out.lt)
  clear HA HBi HXa HXb
  clear hb1 HVa
  have e0 : World.cell? (w1) ⟨w.heap.size + 1, 0, none⟩ = some (.int .i64 b.m.kd) := (HXb1.out).cell 0
  have e1 : World.cell? (w1) ⟨w.heap.size + 1, 1, none⟩ = some (.int .i64 b.m.fr) := (HXb1.out).cell 1
  have e2 : World.cell? (w1) ⟨w.heap.size + 1, 2, none⟩ = some (.int .i64 b.m.vw) := (HXb1.out).cell 2
  have e3 : World.cell? (w1) ⟨w.heap.size + 1, 3, none⟩ = some (.int .i64 b.m.ins) := (HXb1.out).cell 3
  have e4 : World.cell? (w1) ⟨w.heap.size + 1, 4, none⟩ = some (.int .i64 b.m.sq) := (HXb1.out).cell 4
  have e5 : World.cell? (w1) ⟨w.heap.size + 1, 5, none⟩ = some (.int .i64 b.m.rs) := (HXb1.out).cell 5
  have e6 : World.cell? (w1) ⟨w.heap.size + 1, 6, none⟩ = some (.slice b.A1 b.m.bt.length b.c1) := (HXb1.out).cell 6
  have e7 : World.cell? (w1) ⟨w.heap.size + 1, 7, none⟩ = some (.slice b.A2 b.m.vs.length b.c2) := (HXb1.out).cell 7
  have e8 : World.cell? (w1) ⟨w.heap.size + 1, 8, none⟩ = some (.slice b.A3 b.m.cs.length b.c3) := (HXb1.out).cell 8
  have e9 : World.cell? (w1) ⟨w.heap.size + 1, 9, none⟩ = some (.slice b.A4 b.m.ps.length b.c4) := (HXb1.out).cell 9
  go_wp2_with fail
  clear e0 e1 e2 e3 e4 e5 e6 e7 e8 e9
  refine (HVb.out _ HBi1.out).mono ?_
  rintro e w2 ⟨rfl, hb2⟩
  have HB2 := Lib.hid (HB1.out.trans (hb2.mono HB1.out.size))
  have HA2 := Lib.hid ((HA1.out.reads (Reads.below hb2 (Nat.le_refl _))).reads (Reads.more hb2.size))
  have HBi2 := Lib.hid ((HBi1.out.reads (Reads.below hb2 (Nat.le_refl _))).reads (Reads.more hb2.size))
  have HXa2 := Lib.hid (HXa1.out.below hb2 HXa1.out.lt)
  have HXb2 := Lib.hid (HXb1.out.below hb2 HXb1.out.lt)
  clear HA1 HBi1 HXa1 HXb1
  clear hb2 HVb
  have e0 : World.cell? (w2) ⟨w.heap.size, 0, none⟩ = some (.int .i64 a.m.kd) := (HXa2.out).cell 0
  have e1 : World.cell? (w2) ⟨w.heap.size, 1, none⟩ = some (.int .i64 a.m.fr) := (HXa2.out).cell 1
  have e2 : World.cell? (w2) ⟨w.heap.size, 2, none⟩ = some (.int .i64 a.m.vw) := (HXa2.out).cell 2
  have e3 : World.cell? (w2) ⟨w.heap.size, 3, none⟩ = some (.int .i64 a.m.ins) := (HXa2.out).cell 3
  have e4 : World.cell? (w2) ⟨w.heap.size, 4, none⟩ = some (.int .i64 a.m.sq) := (HXa2.out).cell 4
  have e5 : World.cell? (w2) ⟨w.heap.size, 5, none⟩ = some (.int .i64 a.m.rs) := (HXa2.out).cell 5
  have e6 : World.cell? (w2) ⟨w.heap.size, 6, none⟩ = some (.slice a.A1 a.m.bt.length a.c1) := (HXa2.out).cell 6
  have e7 : World.cell? (w2) ⟨w.heap.size, 7, none⟩ = some (.slice a.A2 a.m.vs.length a.c2) := (HXa2.out).cell 7
  have e8 : World.cell? (w2) ⟨w.heap.size, 8, none⟩ = some (.slice a.A3 a.m.cs.length a.c3) := (HXa2.out).cell 8
  have e9 : World.cell? (w2) ⟨w.heap.size, 9, none⟩ = some (.slice a.A4 a.m.ps.length a.c4) := (HXa2.out).cell 9
  go_wp2_with fail
  clear e0 e1 e2 e3 e4 e5 e6 e7 e8 e9
  refine (body_any a w2 HA2.out ta2).mono ?_
  rintro e w3 ⟨hb3, hx⟩
  have HB3 := Lib.hid (HB2.out.trans (hb3.mono HB2.out.size))
  have HA3 := Lib.hid ((HA2.out.reads (Reads.below hb3 (Nat.le_refl _))).reads (Reads.more hb3.size))
  have HBi3 := Lib.hid ((HBi2.out.reads (Reads.below hb3 (Nat.le_refl _))).reads (Reads.more hb3.size))
  have HXa3 := Lib.hid (HXa2.out.below hb3 HXa2.out.lt)
  have HXb3 := Lib.hid (HXb2.out.below hb3 HXb2.out.lt)
  clear HA2 HBi2 HXa2 HXb2
  have e0 : World.cell? (w3) ⟨w.heap.size + 1, 0, none⟩ = some (.int .i64 b.m.kd) := (HXb3.out).cell 0
  have e1 : World.cell? (w3) ⟨w.heap.size + 1, 1, none⟩ = some (.int .i64 b.m.fr) := (HXb3.out).cell 1
  have e2 : World.cell? (w3) ⟨w.heap.size + 1, 2, none⟩ = some (.int .i64 b.m.vw) := (HXb3.out).cell 2
  have e3 : World.cell? (w3) ⟨w.heap.size + 1, 3, none⟩ = some (.int .i64 b.m.ins) := (HXb3.out).cell 3
  have e4 : World.cell? (w3) ⟨w.heap.size + 1, 4, none⟩ = some (.int .i64 b.m.sq) := (HXb3.out).cell 4
  have e5 : World.cell? (w3) ⟨w.heap.size + 1, 5, none⟩ = some (.int .i64 b.m.rs) := (HXb3.out).cell 5
  have e6 : World.cell? (w3) ⟨w.heap.size + 1, 6, none⟩ = some (.slice b.A1 b.m.bt.length b.c1) := (HXb3.out).cell 6
  have e7 : World.cell? (w3) ⟨w.heap.size + 1, 7, none⟩ = some (.slice b.A2 b.m.vs.length b.c2) := (HXb3.out).cell 7
  have e8 : World.cell? (w3) ⟨w.heap.size + 1, 8, none⟩ = some (.slice b.A3 b.m.cs.length b.c3) := (HXb3.out).cell 8
  have e9 : World.cell? (w3) ⟨w.heap.size + 1, 9, none⟩ = some (.slice b.A4 b.m.ps.length b.c4) := (HXb3.out).cell 9
  rcases hx with ⟨bs, X, cx, hbs, rfl, ho⟩ | ⟨hbs, rfl⟩
  case inr =>
    clear hb3 HSm
    go_wp2_with fail
    clear e0 e1 e2 e3 e4 e5 e6 e7 e8 e9
    refine (body_any b w3 HBi3.out tb2).mono ?_
    rintro e w4 ⟨hb4, hx⟩
    have HB4 := Lib.hid (HB3.out.trans (hb4.mono HB3.out.size))
    clear hb4 HA3 HBi3 HXa3 HXb3
    rcases hx with ⟨cs, Y, cy, hcs, rfl, ho⟩ | ⟨hcs, rfl⟩
    all_goals
      (try clear ho)
      clear hcs hbs
      go_wp2_with fail
      refine wp_region_quiet_below (by kernel_rfl) (by kernel_rfl) ?_
      refine wq_out ?_
      refine wq_do (by kernel_rfl) (fun K hK => ?_)
      go_simp
      refine hK _ ?_
      clear hK K
      refine wq_do (by kernel_rfl) (fun K hK => ?_)
      go_simp
      refine hK _ ?_
      clear hK K
      refine wq_skip (by kernel_rfl) ?_
      refine wq_do (by kernel_rfl) (fun K hK => ?_)
      go_simp
      refine hK _ ?_
      clear hK K
      refine wq_do (by kernel_rfl) (fun K hK => ?_)
      go_simp
      refine hK _ ?_
      clear hK K
      refine wq_skip (by kernel_rfl) ?_
      refine wq_skip (by kernel_rfl) ?_
      refine wq_skip (by kernel_rfl) ?_
      refine wq_skip (by kernel_rfl) ?_
      refine wq_skip (by kernel_rfl) ?_
      refine wq_skip (by kernel_rfl) ?_
      refine wq_skip (by kernel_rfl) ?_
      refine wq_do (by kernel_rfl) (fun K hK => ?_)
      go_simp
      refine hK _ ?_
      clear hK K
      refine wq_nil ?_
      intro _ hw'
      obtain ⟨⟨dq, osq⟩, hw''⟩ := hw'
      subst hw''
      have HB5 := Lib.hid (HB4.out.trans ((below_regrown w4 dq osq).mono HB4.out.size))
      go_wp2_with fail
      refine (wakes6_any _).mono ?_
      rintro e wz ⟨rfl, hbz⟩
      have HZ := Lib.hid (HB5.out.trans (hbz.mono HB5.out.size))
      clear hbz
      go_wp2_with fail
      go_ret
      exact ⟨rfl, HZ.out⟩
  have HBS := Lib.hid hbs
  have HO3 := Lib.hid ho
  obtain ⟨n, hn⟩ : ∃ n, bs.length = n := ⟨_, rfl⟩
  rw [hn] at HO3 ⊢
  have HN := Lib.hid hn
  have hn1 : 10 ≤ n := by rw [← hn]; exact body_fewest hbs
  have hn2 : n ≤ 65536 := by rw [← hn]; exact bodyM_len hbs
  have hnc := own_caps HO3.out
  clear hn hbs ho hb3
  go_wp2_with fail
  clear e0 e1 e2 e3 e4 e5 e6 e7 e8 e9
  refine (body_any b w3 HBi3.out tb2).mono ?_
  rintro e w4 ⟨hb4, hx⟩
  have HB4 := Lib.hid (HB3.out.trans (hb4.mono HB3.out.size))
  have HA4 := Lib.hid ((HA3.out.reads (Reads.below hb4 (Nat.le_refl _))).reads (Reads.more hb4.size))
  have HBi4 := Lib.hid ((HBi3.out.reads (Reads.below hb4 (Nat.le_refl _))).reads (Reads.more hb4.size))
  have HXa4 := Lib.hid (HXa3.out.below hb4 HXa3.out.lt)
  have HXb4 := Lib.hid (HXb3.out.below hb4 HXb3.out.lt)
  clear HA3 HBi3 HXa3 HXb3
  have HO4 := Lib.hid (below_own HO3.out hb4 (Nat.le_refl _))
  clear hb4 HO3
  have hend : ∀ w5, Below w4.heap.size w4 w5 → Below w.heap.size w w5 ∧ w5.ownsRow w2.heap.size 5 1 (.slice X n cx) n (u8s bs) := fun w5 hb => ⟨HB4.out.trans (hb.mono HB4.out.size), below_own HO4.out hb (Nat.le_refl _)⟩
  have HEnd := Lib.hid hend
  clear hend
  obtain ⟨i0, hi0, hz0, hz1, hz2⟩ := info_parts Try.info5
  rcases hx with ⟨cs, Y, cy, hcs, rfl, hoy⟩ | ⟨hcs, rfl⟩
  case inr =>
    clear hcs HA4 HBi4 HXa4 HXb4 HSm
    go_wp2_with fail
    refine wp_region_quiet_below (by kernel_rfl) (by kernel_rfl) ?_
    refine wq_out ?_
    refine wq_do (by kernel_rfl) (fun K hK => ?_)
    go_simp
    refine hK _ ?_
    clear hK K
    refine wq_do (by kernel_rfl) (fun K hK => ?_)
    go_simp
    refine hK _ ?_
    clear hK K
    refine wq_do (by kernel_rfl) (fun K hK => ?_)
    go_simp
    refine hK _ ?_
    clear hK K
    refine wq_do (by kernel_rfl) (fun K hK => ?_)
    go_simp
    refine hK _ ?_
    clear hK K
    refine wq_do (by kernel_rfl) (fun K hK => ?_)
    go_simp
    refine hK _ ?_
    clear hK K
    refine wq_skip (by kernel_rfl) ?_
    refine wq_skip (by kernel_rfl) ?_
    refine wq_skip (by kernel_rfl) ?_
    refine wq_skip (by kernel_rfl) ?_
    refine wq_skip (by kernel_rfl) ?_
    refine wq_skip (by kernel_rfl) ?_
    refine wq_skip (by kernel_rfl) ?_
    refine wq_do (by kernel_rfl) (fun K hK => ?_)
    go_simp
    refine hK _ ?_
    clear hK K
    refine wq_nil ?_
    intro _ hw'
    obtain ⟨⟨dq, osq⟩, hw''⟩ := hw'
    subst hw''
    obtain ⟨w5, hw5⟩ : ∃ w5, grow (redrawn w4 dq) osq = w5 := ⟨_, rfl⟩
    have h5 := HEnd.out _ (below_regrown w4 dq osq)
    rw [hw5] at h5 ⊢
    have HB5 := Lib.hid h5.1
    have HO5 := Lib.hid h5.2
    clear hw5 h5 HEnd HB4 HO4
    obtain ⟨k, hk, hk2⟩ : ∃ k : Nat, at0 % (n : Int) = (k : Int) ∧ k < n := ⟨(at0 % (n : Int)).toNat, by have := Int.emod_nonneg at0 (show (n : Int) ≠ 0 by omega); omega, by have := Int.emod_nonneg at0 (show (n : Int) ≠ 0 by omega); have := Int.emod_lt_of_pos at0 (show 0 < (n : Int) by omega); omega⟩
    have HWi := Lib.hid (fun w => within_any at0 (n : Int) (by omega) (by omega) f1 f2 w)
    rw [hk] at HWi
    have hkc : k ≤ cx := by have := hnc.1; omega
    have R1 := fun (w : World) => bslice_head (w := w) X (n := n) (c := cx) (k := k) hkc
    have HTl := Lib.hid (show (bs.take k).length = k by rw [List.length_take, HN.out]; omega)
    have HCut := Lib.hid (parse_cut HBS.out (k := k) (by rw [HN.out]; exact hk2))
    clear hk
    go_wp2_with fail
    refine (HWi.out _).mono ?_
    rintro e w' ⟨rfl, rfl⟩
    go_wp2_with fail
    refine (parse_any X cx (bs.take k) w5.heap.size k HTl.out (by omega) (fun z hz => body_u8 HBS.out z (List.mem_of_mem_take hz)) _ (Nat.le_refl _) (bhas_head (Has.own HO5.out))).mono ?_
    rintro e w6 ⟨hb6, ⟨x, hx, _⟩ | ⟨_, rfl⟩⟩
    · rw [HCut.out] at hx; cases hx
    have HB6 := Lib.hid (HB5.out.trans (hb6.mono HB5.out.size))
    have HO6 := Lib.hid (below_own HO5.out hb6 (Nat.le_refl _))
    clear hb6 HB5 HO5 R1 HWi HTl HCut
    go_wp2_with fail
    have hb7 : Below w6.heap.size w6 (w6.alloc (.cells #[.int .i64 0, .int .i64 0, .int .i64 0, .int .i64 0, .int .i64 0, .int .i64 0, .slice none 0 0, .slice none 0 0, .slice none 0 0, .slice none 0 0] 27)) := (Below.refl _ _).alloc (Nat.le_refl _) _
    have HB7 := Lib.hid (HB6.out.trans (hb7.mono HB6.out.size))
    have HO7 := Lib.hid (below_own HO6.out hb7 (Nat.le_refl _))
    obtain ⟨w7, hw7⟩ : ∃ w7, (w6.alloc (.cells #[.int .i64 0, .int .i64 0, .int .i64 0, .int .i64 0, .int .i64 0, .int .i64 0, .slice none 0 0, .slice none 0 0, .slice none 0 0, .slice none 0 0] 27)) = w7 := ⟨_, rfl⟩
    rw [hw7] at HB7 HO7 ⊢
    clear hb7 hw7 HB6 HO6
    refine (copy_own X cx n w7.heap.size bs w7 HN.out (by rw [HN.out]; omega) (Has.own HO7.out) (gr_none HO7.out)).mono ?_
    rintro e w8 ⟨v, rfl, ho8, hb8⟩
    have HB8 := Lib.hid (HB7.out.trans (hb8.mono HB7.out.size))
    have HO8 := Lib.hid (ho8.alloc (.cells #[.int .u8 0] 5))
    have hs8 := hb8.size
    clear ho8 hb8 HO7
    go_wp2_with (at_builtin; refine wpList_app rfl (.tmp 60) (.tmp 61) 30 rfl w7.heap.size 5 i0 (.int .u8 0) 1 Try.underlying30 hi0 hz0 hz1 hz2 rfl _ _ _ rfl HO8.out _ (some ⟨w8.heap.size, 0, none⟩) 1 1 [.int .u8 0] rfl rfl (has_box _ _ _) (fun h => by cases h) (by intro u hu; simp at hu; subst hu; rfl) (by unfold maxLen; omega) (by omega) (by simp; omega) ?_)
    intro v9 w9 ho9 hg9 hb9
    have HB9 := Lib.hid ((HB8.out.alloc HB8.out.size (.cells #[.int .u8 0] 5)).grown hg9 (by have := HB8.out.size; simp; omega) (fun k hk => by have := (HO8.out.lt k hk).1; have := HB7.out.size; omega))
    have HO9 := Lib.hid (own_more0 ho9)
    obtain ⟨Y9, c9, rfl, _, _⟩ := own_slice ho9
    have HM := Lib.hid (parse_more HBS.out (l := [0]) (by simp) (by simp))
    clear ho9 hg9 hb9 HO8 HB8
    go_wp2_with fail
    refine (parse_any Y9 c9 (bs ++ [0]) w9.heap.size (n + 1) (by rw [List.length_append, HN.out]; rfl) (by omega) (by intro z hz; rcases List.mem_append.1 hz with hz | hz; exact body_u8 HBS.out z hz; simp at hz; omega) _ (Nat.le_refl _) (Has.own HO9.out)).mono ?_
    rintro e w10 ⟨hb10, ⟨x, hx, _⟩ | ⟨_, rfl⟩⟩
    · rw [HM.out] at hx; cases hx
    have HB10 := Lib.hid (HB9.out.trans (hb10.mono HB9.out.size))
    clear hb10 HB9 HO9 HM
    go_wp2_with fail
    have HB11 := Lib.hid (HB10.out.alloc HB10.out.size (.cells #[.int .i64 0, .int .i64 0, .int .i64 0, .int .i64 0, .int .i64 0, .int .i64 0, .slice none 0 0, .slice none 0 0, .slice none 0 0, .slice none 0 0] 27))
    refine (wakes6_any _).mono ?_
    rintro e wz ⟨rfl, hbz⟩
    have HZ := Lib.hid (HB11.out.trans (hbz.mono HB11.out.size))
    clear hbz
    go_wp2_with fail
    go_ret
    exact ⟨rfl, HZ.out⟩
  have HCS := Lib.hid hcs
  have HOy := Lib.hid (Has.own hoy)
  obtain ⟨m, hm⟩ : ∃ m, cs.length = m := ⟨_, rfl⟩
  have HM0 := Lib.hid hm
  rw [hm]
  have hr : sameB bs cs = decide (a.m = b.m) := by
    unfold sameB
    apply decide_eq_decide.2
    constructor
    · intro e; rw [← e] at hcs; exact body_unlike HBS.out hcs
    · intro e; rw [← e, HBS.out] at hcs; injection hcs
  obtain ⟨r, hr2⟩ : ∃ r, decide (a.m = b.m) = r := ⟨_, rfl⟩
  rw [hr2] at hr
  have KS0 := Lib.hid (fun w' (hw : Below w4.heap.size w4 w') => (same_is (A := X) (A' := Y) (c := cx) (c' := cy) HN.out HM0.out (by omega) hr w' ((Has.own HO4.out).below hw (Nat.le_refl _)) (HOy.out.below hw (Nat.le_refl _))).mono (R' := fun e w2 => e = .returned (.bool r) ∧ Below w'.heap.size w' w2) (fun e w2 h => ⟨h.1, by obtain ⟨m, rfl⟩ := h.2; exact below_drewN (Below.refl _ _) m⟩))
  have KM0 := Lib.hid (fun w' (hw : Below w4.heap.size w4 w') => keep_msg a b w4.heap.size w' (HA4.out.reads (Reads.below hw (Nat.le_refl _))) (HBi4.out.reads (Reads.below hw (Nat.le_refl _))) hw.size HSm.out)
  rw [hr2] at KM0
  clear hcs hoy hr hr2 hm HSm HCS
  go_wp2_with fail
  have KS := fun d os => Calls.regrown_of (KS0.out (grow (redrawn w4 d) os) (below_regrown w4 d os))
  have KM := fun d os => Calls.regrown_of (KM0.out (grow (redrawn w4 d) os) (below_regrown w4 d os))
  obtain ⟨d0, d1, d2, d3, d4, d5, d6, d7, d8, d9⟩ := blk_cells10 HXa4.out
  obtain ⟨g0, g1, g2, g3, g4, g5, g6, g7, g8, g9⟩ := blk_cells10 HXb4.out
  clear KS0 KM0 HA4 HBi4 HXa4 HXb4
  refine wp_region_quiet_below (by kernel_rfl) (by kernel_rfl) ?_
  refine wq_out ?_
  refine wq_do (by kernel_rfl) (fun K hK => ?_)
  go_simp
  refine hK _ ?_
  clear hK K
  refine wq_do (by kernel_rfl) (fun K hK => ?_)
  go_simp
  refine hK _ ?_
  clear hK K
  refine wq_do (by kernel_rfl) (fun K hK => ?_)
  go_simp
  refine hK _ ?_
  clear hK K
  refine wq_do (by kernel_rfl) (fun K hK => ?_)
  go_simp
  refine hK _ ?_
  clear hK K
  refine wq_do (by kernel_rfl) (fun K hK => ?_)
  go_simp
  refine hK _ ?_
  clear hK K
  refine wq_do (by kernel_rfl) (fun K hK => ?_)
  go_simp
  refine hK _ ?_
  clear hK K
  refine wq_do (by kernel_rfl) (fun K hK => ?_)
  go_simp
  refine hK _ ?_
  clear hK K
  refine wq_do (by kernel_rfl) (fun K hK => ?_)
  go_simp
  apply Exists.intro
  refine ⟨fun a => ?_, hK _ ?_⟩
  · exact KS a.d a.os
  clear hK K
  refine wq_do (by kernel_rfl) (fun K hK => ?_)
  go_simp
  refine hK _ ?_
  clear hK K
  refine wq_do (by kernel_rfl) (fun K hK => ?_)
  go_simp
  refine hK _ ?_
  clear hK K
  refine wq_do (by kernel_rfl) (fun K hK => ?_)
  go_simp
  apply Exists.intro
  refine ⟨fun a => ?_, hK _ ?_⟩
  · exact KM a.d a.os
  clear hK K
  refine wq_do (by kernel_rfl) (fun K hK => ?_)
  go_simp
  refine hK _ ?_
  clear hK K
  refine wq_do (by kernel_rfl) (fun K hK => ?_)
  go_simp
  refine hK _ ?_
  clear hK K
  refine wq_nil ?_
  intro _ hw'
  obtain ⟨⟨dq, osq⟩, hw''⟩ := hw'
  subst hw''
  clear KS KM
  clear d0 d1 d2 d3 d4 d5 d6 d7 d8 d9
  clear g0 g1 g2 g3 g4 g5 g6 g7 g8 g9
  have hrr : (r != r) = false := by cases r <;> rfl
  clear HOy HM0
  obtain ⟨w5, hw5⟩ : ∃ w5, grow (redrawn w4 dq) osq = w5 := ⟨_, rfl⟩
  have h5 := HEnd.out _ (below_regrown w4 dq osq)
  rw [hw5] at h5 ⊢
  have HB5 := Lib.hid h5.1
  have HO5 := Lib.hid h5.2
  clear hw5 h5 HEnd HB4 HO4
  obtain ⟨k, hk, hk2⟩ : ∃ k : Nat, at0 % (n : Int) = (k : Int) ∧ k < n := ⟨(at0 % (n : Int)).toNat, by have := Int.emod_nonneg at0 (show (n : Int) ≠ 0 by omega); omega, by have := Int.emod_nonneg at0 (show (n : Int) ≠ 0 by omega); have := Int.emod_lt_of_pos at0 (show 0 < (n : Int) by omega); omega⟩
  have HWi := Lib.hid (fun w => within_any at0 (n : Int) (by omega) (by omega) f1 f2 w)
  rw [hk] at HWi
  have hkc : k ≤ cx := by have := hnc.1; omega
  have R1 := fun (w : World) => bslice_head (w := w) X (n := n) (c := cx) (k := k) hkc
  have HTl := Lib.hid (show (bs.take k).length = k by rw [List.length_take, HN.out]; omega)
  have HCut := Lib.hid (parse_cut HBS.out (k := k) (by rw [HN.out]; exact hk2))
  clear hk
  go_wp2_with fail
  refine (HWi.out _).mono ?_
  rintro e w' ⟨rfl, rfl⟩
  go_wp2_with fail
  refine (parse_any X cx (bs.take k) w5.heap.size k HTl.out (by omega) (fun z hz => body_u8 HBS.out z (List.mem_of_mem_take hz)) _ (Nat.le_refl _) (bhas_head (Has.own HO5.out))).mono ?_
  rintro e w6 ⟨hb6, ⟨x, hx, _⟩ | ⟨_, rfl⟩⟩
  · rw [HCut.out] at hx; cases hx
  have HB6 := Lib.hid (HB5.out.trans (hb6.mono HB5.out.size))
  have HO6 := Lib.hid (below_own HO5.out hb6 (Nat.le_refl _))
  clear hb6 HB5 HO5 R1 HWi HTl HCut
  go_wp2_with fail
  have hb7 : Below w6.heap.size w6 (w6.alloc (.cells #[.int .i64 0, .int .i64 0, .int .i64 0, .int .i64 0, .int .i64 0, .int .i64 0, .slice none 0 0, .slice none 0 0, .slice none 0 0, .slice none 0 0] 27)) := (Below.refl _ _).alloc (Nat.le_refl _) _
  have HB7 := Lib.hid (HB6.out.trans (hb7.mono HB6.out.size))
  have HO7 := Lib.hid (below_own HO6.out hb7 (Nat.le_refl _))
  obtain ⟨w7, hw7⟩ : ∃ w7, (w6.alloc (.cells #[.int .i64 0, .int .i64 0, .int .i64 0, .int .i64 0, .int .i64 0, .int .i64 0, .slice none 0 0, .slice none 0 0, .slice none 0 0, .slice none 0 0] 27)) = w7 := ⟨_, rfl⟩
  rw [hw7] at HB7 HO7 ⊢
  clear hb7 hw7 HB6 HO6
  refine (copy_own X cx n w7.heap.size bs w7 HN.out (by rw [HN.out]; omega) (Has.own HO7.out) (gr_none HO7.out)).mono ?_
  rintro e w8 ⟨v, rfl, ho8, hb8⟩
  have HB8 := Lib.hid (HB7.out.trans (hb8.mono HB7.out.size))
  have HO8 := Lib.hid (ho8.alloc (.cells #[.int .u8 0] 5))
  have hs8 := hb8.size
  clear ho8 hb8 HO7
  go_wp2_with (at_builtin; refine wpList_app rfl (.tmp 60) (.tmp 61) 30 rfl w7.heap.size 5 i0 (.int .u8 0) 1 Try.underlying30 hi0 hz0 hz1 hz2 rfl _ _ _ rfl HO8.out _ (some ⟨w8.heap.size, 0, none⟩) 1 1 [.int .u8 0] rfl rfl (has_box _ _ _) (fun h => by cases h) (by intro u hu; simp at hu; subst hu; rfl) (by unfold maxLen; omega) (by omega) (by simp; omega) ?_)
  intro v9 w9 ho9 hg9 hb9
  have HB9 := Lib.hid ((HB8.out.alloc HB8.out.size (.cells #[.int .u8 0] 5)).grown hg9 (by have := HB8.out.size; simp; omega) (fun k hk => by have := (HO8.out.lt k hk).1; have := HB7.out.size; omega))
  have HO9 := Lib.hid (own_more0 ho9)
  obtain ⟨Y9, c9, rfl, _, _⟩ := own_slice ho9
  have HM := Lib.hid (parse_more HBS.out (l := [0]) (by simp) (by simp))
  clear ho9 hg9 hb9 HO8 HB8
  go_wp2_with fail
  refine (parse_any Y9 c9 (bs ++ [0]) w9.heap.size (n + 1) (by rw [List.length_append, HN.out]; rfl) (by omega) (by intro z hz; rcases List.mem_append.1 hz with hz | hz; exact body_u8 HBS.out z hz; simp at hz; omega) _ (Nat.le_refl _) (Has.own HO9.out)).mono ?_
  rintro e w10 ⟨hb10, ⟨x, hx, _⟩ | ⟨_, rfl⟩⟩
  · rw [HM.out] at hx; cases hx
  have HB10 := Lib.hid (HB9.out.trans (hb10.mono HB9.out.size))
  clear hb10 HB9 HO9 HM
  go_wp2_with fail
  have HB11 := Lib.hid (HB10.out.alloc HB10.out.size (.cells #[.int .i64 0, .int .i64 0, .int .i64 0, .int .i64 0, .int .i64 0, .int .i64 0, .slice none 0 0, .slice none 0 0, .slice none 0 0, .slice none 0 0] 27))
  refine (wakes6_any _).mono ?_
  rintro e wz ⟨rfl, hbz⟩
  have HZ := Lib.hid (HB11.out.trans (hbz.mono HB11.out.size))
  clear hbz
  go_wp2_with fail
  go_ret
  exact ⟨rfl, HZ.out⟩
theorem msgsUnlike_walk (a b : Ms) (at0 : Int) (w : World) (ha : a.Came w) (hb : b.Came w) (hf : (Lit.int .i64 at0).wf = true) :
    Calls Try.prog 3 #[.agg #[.int .i64 a.m.kd, .int .i64 a.m.fr, .int .i64 a.m.vw, .int .i64 a.m.ins, .int .i64 a.m.sq, .int .i64 a.m.rs, .slice a.A1 a.m.bt.length a.c1, .slice a.A2 a.m.vs.length a.c2, .slice a.A3 a.m.cs.length a.c3, .slice a.A4 a.m.ps.length a.c4], .agg #[.int .i64 b.m.kd, .int .i64 b.m.fr, .int .i64 b.m.vw, .int .i64 b.m.ins, .int .i64 b.m.sq, .int .i64 b.m.rs, .slice b.A1 b.m.bt.length b.c1, .slice b.A2 b.m.vs.length b.c2, .slice b.A3 b.m.cs.length b.c3, .slice b.A4 b.m.ps.length b.c4], .int .i64 at0] w fun e w' => e = .returned (.bool true) ∧ Below w.heap.size w w' := by
  have f1 : -9223372036854775808 ≤ at0 ∧ at0 ≤ 9223372036854775807 := by simpa [Lit.wf, IntKind.min, IntKind.max, IntKind.signed, IntKind.bits] using hf
  by_cases h : heavyM a.m = true ∨ heavyM b.m = true
  · exact msgsUnlike_heavy a b at0 w ha.in_ hb.in_ h
  · have h1 : heavyM a.m = false := by cases h1 : heavyM a.m <;> simp_all
    have h2 : heavyM b.m = false := by cases h2 : heavyM b.m <;> simp_all
    exact msgsUnlike_light a b at0 w ha.in_ hb.in_ h1 h2 f1.1 f1.2
end Go.Proofs.Ytbebfgfpdcdcoaa
