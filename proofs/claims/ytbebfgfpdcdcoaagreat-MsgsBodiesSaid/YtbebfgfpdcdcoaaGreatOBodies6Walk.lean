/- The walk of MsgsBodies: it returns true for any message. -/
import Derived.Test.YtbebfgfpdcdcoaaGreatOMsgWake
import Derived.Test.YtbebfgfpdcdcoaaGreatOCopyMsg
import Derived.Test.YtbebfgfpdcdcoaaGreatOMsgRefEnv
import Derived.Test.YtbebfgfpdcdcoaaGreatOS0
import Derived.Deep.DeepCutAuto
namespace Go.Proofs.YtbebfgfpdcdcoaaGreat
open Go.RowKit

theorem Ms.Own.turn {Z : Nat → Prop} {w w' : World} {b : Nat} {x : Ms} (h : x.Own w b) (ht : Turn Z w w') (hz : ∀ k, b ≤ k → ¬ Z k) : x.Own w' b := by
  have hr : ∀ {n s : Nat} {e : TypeId} {v : Value} {xs : List Value}, w.ownsRow b e s v n xs → w'.ownsRow b e s v n xs := fun h => ht.own h (fun j hj => hz j (h.lt j hj).1)
  have hc : ∀ {v : Value} {l : List Ct}, OwnCerts w b v l → OwnCerts w' b v l := fun h => by
    obtain ⟨L, h1, h2, h3⟩ := h
    exact ⟨L, h1, hr h2, fun y hy => ⟨hr (h3 y hy).bt, hr (h3 y hy).vs⟩⟩
  obtain ⟨L, h1, h2, h3⟩ := h.ps
  exact ⟨hr h.bt, hr h.vs, hc h.cs, L, h1, hr h2, fun y hy => ⟨hr (h3 y hy).vs, hc (h3 y hy).cs⟩⟩
theorem bytes_set (xs : List Int) (j : Nat) (z : Int) : u8s (xs.set j z) = (u8s xs).set j (.int .u8 z) := by simp [u8s, List.map_set]
theorem body_fewest6 {m : Mg} {bs : List Int} (h : bodyM m = some bs) : 10 ≤ bs.length := by
  have h1 := (body_parse (body_u8 h) (parse_body h)).2.1
  have h8 : 1 ≤ (listToks Ct.toks m.cs).length := by simp [listToks]
  have h9 : 1 ≤ (listToks Pt.toks m.ps).length := by simp [listToks]
  have h10 : 1 ≤ (listToks Rq.toks m.bt).length := by simp [listToks]
  have h11 : 1 ≤ (listToks Vt.toks m.vs).length := by simp [listToks]
  simp only [Mg.toks, Mg.head, List.length_append, List.length_cons, List.length_nil] at h1
  omega
theorem Ms.Full.at_ {w w' : World} {x : Ms} (h : x.Full w w.heap.size) (hb : Below w.heap.size w w') : x.Full w' w'.heap.size :=
  ⟨(h.bt.below hb (Nat.le_refl _)).more hb.size, (h.vs.below hb (Nat.le_refl _)).more hb.size, (h.cs.reads (Reads.below hb (Nat.le_refl _))).reads (Reads.more hb.size), (h.ps.reads (Reads.below hb (Nat.le_refl _))).reads (Reads.more hb.size), h.n1, h.n2, h.s1, h.s2, h.s3, h.s4⟩
theorem reads_turn {Z : Nat → Prop} {w w' : World} {B : Nat} (ht : Turn Z w w') (hz : ∀ k, k < B → ¬ Z k) : Reads B B w w' := fun _ _ h => has_zone h ht hz
set_option maxHeartbeats 4000000 in
set_option maxRecDepth 100000 in
theorem msgsBodies_heavy (x : Ms) (w : World) (hx : x.In w w.heap.size) (hv : heavyM x.m = true) :
    Calls Tryz.prog 6 #[.agg #[.int .i64 x.m.kd, .int .i64 x.m.fr, .int .i64 x.m.vw, .int .i64 x.m.ins, .int .i64 x.m.sq, .int .i64 x.m.rs, .slice x.A1 x.m.bt.length x.c1, .slice x.A2 x.m.vs.length x.c2, .slice x.A3 x.m.cs.length x.c3, .slice x.A4 x.m.ps.length x.c4]] w fun e w' => e = .returned (.bool true) ∧ Below w.heap.size w w' := by
  have hb0 : Below w.heap.size w (w.alloc (.cells #[.int .i64 x.m.kd, .int .i64 x.m.fr, .int .i64 x.m.vw, .int .i64 x.m.ins, .int .i64 x.m.sq, .int .i64 x.m.rs, .slice x.A1 x.m.bt.length x.c1, .slice x.A2 x.m.vs.length x.c2, .slice x.A3 x.m.cs.length x.c3, .slice x.A4 x.m.ps.length x.c4] 38)) := (Below.refl _ w).alloc (Nat.le_refl _) _
  have HB0 := Lib.hid hb0
  have HI := Lib.hid ((hx.reads (Reads.below hb0 (Nat.le_refl _))).reads (Reads.more hb0.size))
  have HV := Lib.hid (fun w h => heavy_msg x w h)
  rw [hv] at HV
  clear hx hb0 hv
  go_enter Tryz.func6, Tryz.ntmps6
  go_wp2_with fail
  refine (HV.out _ HI.out).mono ?_
  rintro e w1 ⟨rfl, hb1⟩
  have HB1 := Lib.hid (HB0.out.trans (hb1.mono HB0.out.size))
  clear hb1
  go_wp2_with fail
  refine (wakes6_any _).mono ?_
  rintro e wz ⟨rfl, hbz⟩
  have HQ := Lib.hid (HB1.out.trans (hbz.mono HB1.out.size))
  clear hbz
  go_wp2_with fail
  go_ret
  exact ⟨rfl, HQ.out⟩
set_option maxHeartbeats 8000000 in
set_option maxRecDepth 100000 in
theorem msgsBodies_light (x : Ms) (w : World) (hx : x.In w w.heap.size) (hf : x.Full w w.heap.size) (hv : heavyM x.m = false) :
    Calls Tryz.prog 6 #[.agg #[.int .i64 x.m.kd, .int .i64 x.m.fr, .int .i64 x.m.vw, .int .i64 x.m.ins, .int .i64 x.m.sq, .int .i64 x.m.rs, .slice x.A1 x.m.bt.length x.c1, .slice x.A2 x.m.vs.length x.c2, .slice x.A3 x.m.cs.length x.c3, .slice x.A4 x.m.ps.length x.c4]] w fun e w' => e = .returned (.bool true) ∧ Below w.heap.size w w' := by
  have hb0 : Below w.heap.size w (w.alloc (.cells #[.int .i64 x.m.kd, .int .i64 x.m.fr, .int .i64 x.m.vw, .int .i64 x.m.ins, .int .i64 x.m.sq, .int .i64 x.m.rs, .slice x.A1 x.m.bt.length x.c1, .slice x.A2 x.m.vs.length x.c2, .slice x.A3 x.m.cs.length x.c3, .slice x.A4 x.m.ps.length x.c4] 38)) := (Below.refl _ w).alloc (Nat.le_refl _) _
  have HB0 := Lib.hid hb0
  have HIx := Lib.hid (fun (w' : World) (hb : Below w.heap.size w w') => (hx.reads (Reads.below hb (Nat.le_refl _))).reads (Reads.more hb.size))
  have HX0 := Lib.hid hx
  have HF := Lib.hid (fun (w' : World) (hb : Below w.heap.size w w') => Ms.Full.at_ hf hb)
  have HX := Lib.hid (Blk.new w 38 #[.int .i64 x.m.kd, .int .i64 x.m.fr, .int .i64 x.m.vw, .int .i64 x.m.ins, .int .i64 x.m.sq, .int .i64 x.m.rs, .slice x.A1 x.m.bt.length x.c1, .slice x.A2 x.m.vs.length x.c2, .slice x.A3 x.m.cs.length x.c3, .slice x.A4 x.m.ps.length x.c4])
  have HV := Lib.hid (fun w h => heavy_msg x w h)
  rw [hv] at HV
  have HSm := Lib.hid (light_ms hv)
  have htk := light_toks hv
  have htk2 : 6 * x.m.toks.length ≤ 70368744177664 := by omega
  clear hx hf hb0 hv htk
  go_enter Tryz.func6, Tryz.ntmps6
  go_wp2_with fail
  obtain ⟨w0, hw0⟩ : ∃ w0, (w.alloc (.cells #[.int .i64 x.m.kd, .int .i64 x.m.fr, .int .i64 x.m.vw, .int .i64 x.m.ins, .int .i64 x.m.sq, .int .i64 x.m.rs, .slice x.A1 x.m.bt.length x.c1, .slice x.A2 x.m.vs.length x.c2, .slice x.A3 x.m.cs.length x.c3, .slice x.A4 x.m.ps.length x.c4] 38)) = w0 := ⟨_, rfl⟩
  rw [hw0] at HB0 HX ⊢
  clear hw0
  refine (HV.out _ (HIx.out _ HB0.out)).mono ?_
  rintro e w1 ⟨rfl, hb1⟩
  have HB1 := Lib.hid (HB0.out.trans (hb1.mono HB0.out.size))
  have HX1 := Lib.hid (HX.out.below hb1 HX.out.lt)
  clear hb1 HV HX HB0
  have d0 : World.cell? (w1) ⟨w.heap.size, 0, none⟩ = some (.int .i64 x.m.kd) := (HX1.out).cell 0
  have d1 : World.cell? (w1) ⟨w.heap.size, 1, none⟩ = some (.int .i64 x.m.fr) := (HX1.out).cell 1
  have d2 : World.cell? (w1) ⟨w.heap.size, 2, none⟩ = some (.int .i64 x.m.vw) := (HX1.out).cell 2
  have d3 : World.cell? (w1) ⟨w.heap.size, 3, none⟩ = some (.int .i64 x.m.ins) := (HX1.out).cell 3
  have d4 : World.cell? (w1) ⟨w.heap.size, 4, none⟩ = some (.int .i64 x.m.sq) := (HX1.out).cell 4
  have d5 : World.cell? (w1) ⟨w.heap.size, 5, none⟩ = some (.int .i64 x.m.rs) := (HX1.out).cell 5
  have d6 : World.cell? (w1) ⟨w.heap.size, 6, none⟩ = some (.slice x.A1 x.m.bt.length x.c1) := (HX1.out).cell 6
  have d7 : World.cell? (w1) ⟨w.heap.size, 7, none⟩ = some (.slice x.A2 x.m.vs.length x.c2) := (HX1.out).cell 7
  have d8 : World.cell? (w1) ⟨w.heap.size, 8, none⟩ = some (.slice x.A3 x.m.cs.length x.c3) := (HX1.out).cell 8
  have d9 : World.cell? (w1) ⟨w.heap.size, 9, none⟩ = some (.slice x.A4 x.m.ps.length x.c4) := (HX1.out).cell 9
  go_wp2_with fail
  clear d0 d1 d2 d3 d4 d5 d6 d7 d8 d9
  refine (copy_msg x w1 (HF.out _ HB1.out)).mono ?_
  rintro e w2 ⟨y, rfl, hym, hyo, hb2⟩
  have HB2 := Lib.hid (HB1.out.trans (hb2.mono HB1.out.size))
  have HX2 := Lib.hid (HX1.out.below hb2 HX1.out.lt)
  have HYm := Lib.hid hym
  have HYo := Lib.hid hyo
  clear hym hyo hb2 HX1 HB1 HF
  go_upto_region 4 with fail
  have hb3 : Below w2.heap.size w2 (w2.alloc (.cells #[.int .i64 y.m.kd, .int .i64 y.m.fr, .int .i64 y.m.vw, .int .i64 y.m.ins, .int .i64 y.m.sq, .int .i64 y.m.rs, .slice y.A1 y.m.bt.length y.c1, .slice y.A2 y.m.vs.length y.c2, .slice y.A3 y.m.cs.length y.c3, .slice y.A4 y.m.ps.length y.c4] 38)) := (Below.refl _ _).alloc (Nat.le_refl _) _
  have HB3 := Lib.hid (HB2.out.trans (hb3.mono HB2.out.size))
  have HX3 := Lib.hid (HX2.out.below hb3 HX2.out.lt)
  have HYo3 := Lib.hid (HYo.out.below hb3)
  have HY3 := Lib.hid (Blk.new w2 38 #[.int .i64 y.m.kd, .int .i64 y.m.fr, .int .i64 y.m.vw, .int .i64 y.m.ins, .int .i64 y.m.sq, .int .i64 y.m.rs, .slice y.A1 y.m.bt.length y.c1, .slice y.A2 y.m.vs.length y.c2, .slice y.A3 y.m.cs.length y.c3, .slice y.A4 y.m.ps.length y.c4])
  obtain ⟨w3, hw3⟩ : ∃ w3, (w2.alloc (.cells #[.int .i64 y.m.kd, .int .i64 y.m.fr, .int .i64 y.m.vw, .int .i64 y.m.ins, .int .i64 y.m.sq, .int .i64 y.m.rs, .slice y.A1 y.m.bt.length y.c1, .slice y.A2 y.m.vs.length y.c2, .slice y.A3 y.m.cs.length y.c3, .slice y.A4 y.m.ps.length y.c4] 38)) = w3 := ⟨_, rfl⟩
  obtain ⟨g3, hg3⟩ : ∃ g, w2.heap.size = g := ⟨_, rfl⟩
  rw [hw3] at HB3 HX3 HYo3 HY3 ⊢
  rw [hg3] at HY3 ⊢
  clear hb3 hw3 hg3 HB2 HX2 HYo
  have d0 : World.cell? (w3) ⟨g3, 0, none⟩ = some (.int .i64 y.m.kd) := (HY3.out).cell 0
  have d1 : World.cell? (w3) ⟨g3, 1, none⟩ = some (.int .i64 y.m.fr) := (HY3.out).cell 1
  have d2 : World.cell? (w3) ⟨g3, 2, none⟩ = some (.int .i64 y.m.vw) := (HY3.out).cell 2
  have d3 : World.cell? (w3) ⟨g3, 3, none⟩ = some (.int .i64 y.m.ins) := (HY3.out).cell 3
  have d4 : World.cell? (w3) ⟨g3, 4, none⟩ = some (.int .i64 y.m.sq) := (HY3.out).cell 4
  have d5 : World.cell? (w3) ⟨g3, 5, none⟩ = some (.int .i64 y.m.rs) := (HY3.out).cell 5
  have d6 : World.cell? (w3) ⟨g3, 6, none⟩ = some (.slice y.A1 y.m.bt.length y.c1) := (HY3.out).cell 6
  have d7 : World.cell? (w3) ⟨g3, 7, none⟩ = some (.slice y.A2 y.m.vs.length y.c2) := (HY3.out).cell 7
  have d8 : World.cell? (w3) ⟨g3, 8, none⟩ = some (.slice y.A3 y.m.cs.length y.c3) := (HY3.out).cell 8
  have d9 : World.cell? (w3) ⟨g3, 9, none⟩ = some (.slice y.A4 y.m.ps.length y.c4) := (HY3.out).cell 9
  go_wp2_with fail
  clear d0 d1 d2 d3 d4 d5 d6 d7 d8 d9
  refine (body_any y w3 HYo3.out.in_ (by rw [HYm.out]; exact htk2)).mono ?_
  rintro e w4 ⟨hb4, hby⟩
  rw [HYm.out] at hby
  have HB4 := Lib.hid (HB3.out.trans (hb4.mono HB3.out.size))
  have HX4 := Lib.hid (HX3.out.below hb4 HX3.out.lt)
  have HYo4 := Lib.hid (HYo3.out.below hb4)
  have HY4 := Lib.hid (HY3.out.below hb4 HY3.out.lt)
  clear hb4 HB3 HX3 HYo3 HY3
  have d0 : World.cell? (w4) ⟨w.heap.size, 0, none⟩ = some (.int .i64 x.m.kd) := (HX4.out).cell 0
  have d1 : World.cell? (w4) ⟨w.heap.size, 1, none⟩ = some (.int .i64 x.m.fr) := (HX4.out).cell 1
  have d2 : World.cell? (w4) ⟨w.heap.size, 2, none⟩ = some (.int .i64 x.m.vw) := (HX4.out).cell 2
  have d3 : World.cell? (w4) ⟨w.heap.size, 3, none⟩ = some (.int .i64 x.m.ins) := (HX4.out).cell 3
  have d4 : World.cell? (w4) ⟨w.heap.size, 4, none⟩ = some (.int .i64 x.m.sq) := (HX4.out).cell 4
  have d5 : World.cell? (w4) ⟨w.heap.size, 5, none⟩ = some (.int .i64 x.m.rs) := (HX4.out).cell 5
  have d6 : World.cell? (w4) ⟨w.heap.size, 6, none⟩ = some (.slice x.A1 x.m.bt.length x.c1) := (HX4.out).cell 6
  have d7 : World.cell? (w4) ⟨w.heap.size, 7, none⟩ = some (.slice x.A2 x.m.vs.length x.c2) := (HX4.out).cell 7
  have d8 : World.cell? (w4) ⟨w.heap.size, 8, none⟩ = some (.slice x.A3 x.m.cs.length x.c3) := (HX4.out).cell 8
  have d9 : World.cell? (w4) ⟨w.heap.size, 9, none⟩ = some (.slice x.A4 x.m.ps.length x.c4) := (HX4.out).cell 9
  rcases hby with ⟨bs, A, c, hbs, rfl, ho⟩ | ⟨hbs, rfl⟩
  case inl =>
    have HBS := Lib.hid hbs
    have HO4 := Lib.hid ho
    obtain ⟨n, hn⟩ : ∃ n, bs.length = n := ⟨_, rfl⟩
    rw [hn] at HO4 ⊢
    have HN := Lib.hid hn
    have hn2 : n ≤ 65536 := by rw [← hn]; exact bodyM_len hbs
    clear hbs ho hn
    go_wp2_with fail
    clear d0 d1 d2 d3 d4 d5 d6 d7 d8 d9
    refine (rbody_msg x w4 (HIx.out _ HB4.out) htk2).mono ?_
    rintro e w5 ⟨hb5, ⟨cs, A', c', hcs, rfl, ho2⟩ | ⟨hcs, rfl⟩⟩
    case inr => rw [HBS.out] at hcs; cases hcs
    have hce : bs = cs := by rw [HBS.out] at hcs; injection hcs
    subst hce
    rw [HN.out] at ho2 ⊢
    have HB5 := Lib.hid (HB4.out.trans (hb5.mono HB4.out.size))
    have HX5 := Lib.hid (HX4.out.below hb5 HX4.out.lt)
    have HYo5 := Lib.hid (HYo4.out.below hb5)
    have HY5 := Lib.hid (HY4.out.below hb5 HY4.out.lt)
    have HO5 := Lib.hid (below_own HO4.out hb5 (Nat.le_refl _))
    have HS := Lib.hid (same_is (A := A) (A' := A') (c := c) (c' := c') HN.out HN.out (by omega) (r := true) (by unfold sameB; exact decide_eq_true rfl) w5 (Has.own HO5.out) (Has.own ho2))
    clear ho2 HO4
    clear hb5 hcs HB4 HX4 HYo4 HY4
    go_wp2_with fail
    refine HS.out.mono ?_
    rintro e w6 ⟨rfl, nq, rfl⟩
    have HB6 := Lib.hid (below_drewN HB5.out nq)
    have HX6 := Lib.hid (HX5.out.drewN nq)
    have HY6 := Lib.hid (HY5.out.drewN nq)
    have HI6 := Lib.hid (show y.In (w5.drewN nq) w5.heap.size from HYo5.out.in_.reads (fun _ _ h => h))
    have HO6 := Lib.hid (show (w5.drewN nq).ownsRow w3.heap.size 5 1 (.slice A n c) n (u8s bs) from HO5.out)
    have KM := Lib.hid (keep_msg y x (w5.drewN nq).heap.size (w5.drewN nq) HI6.out (HIx.out _ HB6.out) (Nat.le_refl _) (by rw [HYm.out]; exact HSm.out))
    rw [show decide (y.m = x.m) = true from decide_eq_true HYm.out] at KM
    have d0 : World.cell? (w5.drewN nq) ⟨w.heap.size, 0, none⟩ = some (.int .i64 x.m.kd) := (HX6.out).cell 0
    have d1 : World.cell? (w5.drewN nq) ⟨w.heap.size, 1, none⟩ = some (.int .i64 x.m.fr) := (HX6.out).cell 1
    have d2 : World.cell? (w5.drewN nq) ⟨w.heap.size, 2, none⟩ = some (.int .i64 x.m.vw) := (HX6.out).cell 2
    have d3 : World.cell? (w5.drewN nq) ⟨w.heap.size, 3, none⟩ = some (.int .i64 x.m.ins) := (HX6.out).cell 3
    have d4 : World.cell? (w5.drewN nq) ⟨w.heap.size, 4, none⟩ = some (.int .i64 x.m.sq) := (HX6.out).cell 4
    have d5 : World.cell? (w5.drewN nq) ⟨w.heap.size, 5, none⟩ = some (.int .i64 x.m.rs) := (HX6.out).cell 5
    have d6 : World.cell? (w5.drewN nq) ⟨w.heap.size, 6, none⟩ = some (.slice x.A1 x.m.bt.length x.c1) := (HX6.out).cell 6
    have d7 : World.cell? (w5.drewN nq) ⟨w.heap.size, 7, none⟩ = some (.slice x.A2 x.m.vs.length x.c2) := (HX6.out).cell 7
    have d8 : World.cell? (w5.drewN nq) ⟨w.heap.size, 8, none⟩ = some (.slice x.A3 x.m.cs.length x.c3) := (HX6.out).cell 8
    have d9 : World.cell? (w5.drewN nq) ⟨w.heap.size, 9, none⟩ = some (.slice x.A4 x.m.ps.length x.c4) := (HX6.out).cell 9
    have f0 : World.cell? (w5.drewN nq) ⟨g3, 0, none⟩ = some (.int .i64 y.m.kd) := (HY6.out).cell 0
    have f1 : World.cell? (w5.drewN nq) ⟨g3, 1, none⟩ = some (.int .i64 y.m.fr) := (HY6.out).cell 1
    have f2 : World.cell? (w5.drewN nq) ⟨g3, 2, none⟩ = some (.int .i64 y.m.vw) := (HY6.out).cell 2
    have f3 : World.cell? (w5.drewN nq) ⟨g3, 3, none⟩ = some (.int .i64 y.m.ins) := (HY6.out).cell 3
    have f4 : World.cell? (w5.drewN nq) ⟨g3, 4, none⟩ = some (.int .i64 y.m.sq) := (HY6.out).cell 4
    have f5 : World.cell? (w5.drewN nq) ⟨g3, 5, none⟩ = some (.int .i64 y.m.rs) := (HY6.out).cell 5
    have f6 : World.cell? (w5.drewN nq) ⟨g3, 6, none⟩ = some (.slice y.A1 y.m.bt.length y.c1) := (HY6.out).cell 6
    have f7 : World.cell? (w5.drewN nq) ⟨g3, 7, none⟩ = some (.slice y.A2 y.m.vs.length y.c2) := (HY6.out).cell 7
    have f8 : World.cell? (w5.drewN nq) ⟨g3, 8, none⟩ = some (.slice y.A3 y.m.cs.length y.c3) := (HY6.out).cell 8
    have f9 : World.cell? (w5.drewN nq) ⟨g3, 9, none⟩ = some (.slice y.A4 y.m.ps.length y.c4) := (HY6.out).cell 9
    clear HB5 HX5 HY5 HYo5 HI6 HS HO5
    go_wp2_with fail
    refine KM.out.mono ?_
    rintro e w7 ⟨rfl, hb7⟩
    have HB7 := Lib.hid (HB6.out.trans (hb7.mono HB6.out.size))
    have HX7 := Lib.hid (HX6.out.below hb7 HX6.out.lt)
    clear d0 d1 d2 d3 d4 d5 d6 d7 d8 d9
    clear f0 f1 f2 f3 f4 f5 f6 f7 f8 f9
    have HO7 := Lib.hid (below_own HO6.out hb7 (Nat.le_refl _))
    clear hb7 KM HB6 HX6 HY6 HO6
    go_wp2_with fail
    refine (copy_own A c n w7.heap.size bs w7 HN.out (by rw [HN.out]; omega) (Has.own HO7.out) (gr_none HO7.out)).mono ?_
    rintro e w8 ⟨v, rfl, ho8, hb8⟩
    have HB8 := Lib.hid (HB7.out.trans (hb8.mono HB7.out.size))
    have HX8 := Lib.hid (HX7.out.below hb8 HX7.out.lt)
    have hn10 : 0 < n := by have := body_fewest6 HBS.out; have := HN.out; omega
    obtain ⟨gc, cc, rfl, hgc1, hgc2⟩ := ho8.form hn10
    have HO8 := Lib.hid ho8
    have hgcx : w.heap.size < gc := Nat.lt_of_lt_of_le HX7.out.lt hgc1
    clear ho8 hb8 HO7 HB7 HX7
    go_wp2_with fail
    refine (parse_any (some ⟨gc, 0, none⟩) cc bs w8.heap.size n HN.out (by omega) (body_u8 HBS.out) w8 (Nat.le_refl _) (Has.own HO8.out)).mono ?_
    rintro e w9 ⟨hb9, ⟨z, hz, rfl, hzo⟩ | ⟨hz, _⟩⟩
    case inr => rw [parse_body HBS.out] at hz; cases hz
    have hzm : x.m = z.m := by rw [parse_body HBS.out] at hz; injection hz
    have HZm := Lib.hid hzm
    have HB9 := Lib.hid (HB8.out.trans (hb9.mono HB8.out.size))
    have HX9 := Lib.hid (HX8.out.below hb9 HX8.out.lt)
    have HO9 := Lib.hid (below_own HO8.out hb9 (Nat.le_refl _))
    have HZo9 := Lib.hid hzo
    clear hz hzm hzo HB8 HX8 HO8
    go_upto_region 12 with fail
    have hbA : Below w9.heap.size w9 (w9.alloc (.cells #[.int .i64 z.m.kd, .int .i64 z.m.fr, .int .i64 z.m.vw, .int .i64 z.m.ins, .int .i64 z.m.sq, .int .i64 z.m.rs, .slice z.A1 z.m.bt.length z.c1, .slice z.A2 z.m.vs.length z.c2, .slice z.A3 z.m.cs.length z.c3, .slice z.A4 z.m.ps.length z.c4] 38)) := (Below.refl _ _).alloc (Nat.le_refl _) _
    have HBa := Lib.hid (HB9.out.trans (hbA.mono HB9.out.size))
    have HXa := Lib.hid (HX9.out.below hbA HX9.out.lt)
    have HOa := Lib.hid (below_own HO9.out hbA (Nat.le_refl _))
    have HZoa := Lib.hid (HZo9.out.below hbA)
    have HZa := Lib.hid (Blk.new w9 38 #[.int .i64 z.m.kd, .int .i64 z.m.fr, .int .i64 z.m.vw, .int .i64 z.m.ins, .int .i64 z.m.sq, .int .i64 z.m.rs, .slice z.A1 z.m.bt.length z.c1, .slice z.A2 z.m.vs.length z.c2, .slice z.A3 z.m.cs.length z.c3, .slice z.A4 z.m.ps.length z.c4])
    have hs9 := hb9.size
    obtain ⟨wa, hwa⟩ : ∃ wa, (w9.alloc (.cells #[.int .i64 z.m.kd, .int .i64 z.m.fr, .int .i64 z.m.vw, .int .i64 z.m.ins, .int .i64 z.m.sq, .int .i64 z.m.rs, .slice z.A1 z.m.bt.length z.c1, .slice z.A2 z.m.vs.length z.c2, .slice z.A3 z.m.cs.length z.c3, .slice z.A4 z.m.ps.length z.c4] 38)) = wa := ⟨_, rfl⟩
    obtain ⟨ga, hga⟩ : ∃ g, w9.heap.size = g := ⟨_, rfl⟩
    rw [hwa] at HBa HXa HOa HZoa HZa ⊢
    rw [hga] at HZa hs9 ⊢
    clear hbA hwa hga hb9 HB9 HX9 HO9 HZo9
    go_wp2_with fail
    go_loopw [54] (fun v wr => ∃ (k : Nat) (zs : List Int), v = .int .i64 k ∧ k ≤ n ∧ Hid (zs.length = n) ∧ Hid (wr.ownsRow w7.heap.size 5 1 (.slice (some ⟨gc, 0, none⟩) n cc) n (u8s zs)) ∧ Hid (Turn (fun j => j = gc) wa wr)) (fun v _ => n - (intOf v).toNat)
    case atStart => exact ⟨0, bs, rfl, Nat.zero_le _, HN.out, HOa.out, Turn.refl _ _⟩
    case round =>
      obtain ⟨k, zs, rfl, hk, HZl, HOr, HTr⟩ := hrel
      by_cases hlt : k < n
      · have hcell := HOr.out.cellAt k (by omega)
        have hj2 : k < zs.length := by rw [HZl.out]; exact hlt
        rw [u8s_get zs k hj2] at hcell
        have hfz := HOr.out.frozenAt k
        have HSt := Lib.hid (show (wr.setCell ⟨gc, k, none⟩ (.int .u8 7)).ownsRow w7.heap.size 5 1 (.slice (some ⟨gc, 0, none⟩) n cc) n (u8s (zs.set k 7)) from by rw [bytes_set]; exact (HOr.out.stored k (.int .u8 7)).1)
        have HTu := Lib.hid (HTr.out.set_ ⟨gc, k, none⟩ (.int .u8 7) rfl)
        clear hj2
        go_wp2_with fail
        go_roundw
        case rel => exact ⟨k + 1, zs.set k 7, by go_num, by omega, by show (zs.set k 7).length = n; rw [List.length_set]; exact HZl.out, HSt.out, HTu.out⟩
        case measure => simp [intOf]; omega
      · have hx9 := HXa.out.lt
        have hgne : w.heap.size ≠ gc := by omega
        have hgne2 : ga ≠ gc := by omega
        have HXr := Lib.hid (HTr.out.blk HXa.out hgne)
        have HZr := Lib.hid (HTr.out.blk HZa.out hgne2)
        have HIz := Lib.hid ((HZoa.out.turn HTr.out (fun j hj he => by omega)).in_)
        have HIw := Lib.hid (((HX0.out.reads (Reads.below HBa.out (Nat.le_refl _))).reads (reads_turn HTr.out (fun j hj he => by omega))).reads (Reads.more (Nat.le_trans HBa.out.size HTr.out.size)))
        have HBr := Lib.hid (HBa.out.trans (HTr.out.below HBa.out.size (fun j hj he => by omega)))
        have KM := Lib.hid (keep_msg z x wr.heap.size wr HIz.out HIw.out (Nat.le_refl _) (by rw [← HZm.out]; exact HSm.out))
        rw [show decide (z.m = x.m) = true from decide_eq_true HZm.out.symm] at KM
        have d0 : World.cell? (wr) ⟨w.heap.size, 0, none⟩ = some (.int .i64 x.m.kd) := (HXr.out).cell 0
        have d1 : World.cell? (wr) ⟨w.heap.size, 1, none⟩ = some (.int .i64 x.m.fr) := (HXr.out).cell 1
        have d2 : World.cell? (wr) ⟨w.heap.size, 2, none⟩ = some (.int .i64 x.m.vw) := (HXr.out).cell 2
        have d3 : World.cell? (wr) ⟨w.heap.size, 3, none⟩ = some (.int .i64 x.m.ins) := (HXr.out).cell 3
        have d4 : World.cell? (wr) ⟨w.heap.size, 4, none⟩ = some (.int .i64 x.m.sq) := (HXr.out).cell 4
        have d5 : World.cell? (wr) ⟨w.heap.size, 5, none⟩ = some (.int .i64 x.m.rs) := (HXr.out).cell 5
        have d6 : World.cell? (wr) ⟨w.heap.size, 6, none⟩ = some (.slice x.A1 x.m.bt.length x.c1) := (HXr.out).cell 6
        have d7 : World.cell? (wr) ⟨w.heap.size, 7, none⟩ = some (.slice x.A2 x.m.vs.length x.c2) := (HXr.out).cell 7
        have d8 : World.cell? (wr) ⟨w.heap.size, 8, none⟩ = some (.slice x.A3 x.m.cs.length x.c3) := (HXr.out).cell 8
        have d9 : World.cell? (wr) ⟨w.heap.size, 9, none⟩ = some (.slice x.A4 x.m.ps.length x.c4) := (HXr.out).cell 9
        have f0 : World.cell? (wr) ⟨ga, 0, none⟩ = some (.int .i64 z.m.kd) := (HZr.out).cell 0
        have f1 : World.cell? (wr) ⟨ga, 1, none⟩ = some (.int .i64 z.m.fr) := (HZr.out).cell 1
        have f2 : World.cell? (wr) ⟨ga, 2, none⟩ = some (.int .i64 z.m.vw) := (HZr.out).cell 2
        have f3 : World.cell? (wr) ⟨ga, 3, none⟩ = some (.int .i64 z.m.ins) := (HZr.out).cell 3
        have f4 : World.cell? (wr) ⟨ga, 4, none⟩ = some (.int .i64 z.m.sq) := (HZr.out).cell 4
        have f5 : World.cell? (wr) ⟨ga, 5, none⟩ = some (.int .i64 z.m.rs) := (HZr.out).cell 5
        have f6 : World.cell? (wr) ⟨ga, 6, none⟩ = some (.slice z.A1 z.m.bt.length z.c1) := (HZr.out).cell 6
        have f7 : World.cell? (wr) ⟨ga, 7, none⟩ = some (.slice z.A2 z.m.vs.length z.c2) := (HZr.out).cell 7
        have f8 : World.cell? (wr) ⟨ga, 8, none⟩ = some (.slice z.A3 z.m.cs.length z.c3) := (HZr.out).cell 8
        have f9 : World.cell? (wr) ⟨ga, 9, none⟩ = some (.slice z.A4 z.m.ps.length z.c4) := (HZr.out).cell 9
        go_wp2_with fail
        refine KM.out.mono ?_
        rintro e wy ⟨rfl, hby⟩
        have HBy := Lib.hid (HBr.out.trans (hby.mono HBr.out.size))
        clear d0 d1 d2 d3 d4 d5 d6 d7 d8 d9
        clear f0 f1 f2 f3 f4 f5 f6 f7 f8 f9
        clear hby
        go_wp2_with fail
        refine (wakes6_any _).mono ?_
        rintro e wz ⟨rfl, hbz⟩
        have HQ := Lib.hid (HBy.out.trans (hbz.mono HBy.out.size))
        clear hbz
        go_wp2_with fail
        go_ret
        exact ⟨rfl, HQ.out⟩
  case inr =>
    have HBS := Lib.hid hbs
    clear hbs
    go_wp2_with fail
    clear d0 d1 d2 d3 d4 d5 d6 d7 d8 d9
    refine (rbody_msg x w4 (HIx.out _ HB4.out) htk2).mono ?_
    rintro e w5 ⟨hb5, ⟨cs, A', c', hcs, rfl, ho2⟩ | ⟨hcs, rfl⟩⟩
    case inl => rw [HBS.out] at hcs; cases hcs
    have HB5 := Lib.hid (HB4.out.trans (hb5.mono HB4.out.size))
    have HX5 := Lib.hid (HX4.out.below hb5 HX4.out.lt)
    have HYo5 := Lib.hid (HYo4.out.below hb5)
    have HY5 := Lib.hid (HY4.out.below hb5 HY4.out.lt)
    have HS := Lib.hid (same_is (A := none) (A' := none) (c := 0) (c' := 0) (zs := []) (ys := []) rfl rfl (by decide) (r := true) (by decide) w5 (Has.nil _ 0 _) (Has.nil _ _ _))
    clear hb5 hcs HB4 HX4 HYo4 HY4
    go_wp2_with fail
    refine HS.out.mono ?_
    rintro e w6 ⟨rfl, nq, rfl⟩
    have HB6 := Lib.hid (below_drewN HB5.out nq)
    have HX6 := Lib.hid (HX5.out.drewN nq)
    have HY6 := Lib.hid (HY5.out.drewN nq)
    have HI6 := Lib.hid (show y.In (w5.drewN nq) w5.heap.size from HYo5.out.in_.reads (fun _ _ h => h))
    have KM := Lib.hid (keep_msg y x (w5.drewN nq).heap.size (w5.drewN nq) HI6.out (HIx.out _ HB6.out) (Nat.le_refl _) (by rw [HYm.out]; exact HSm.out))
    rw [show decide (y.m = x.m) = true from decide_eq_true HYm.out] at KM
    have d0 : World.cell? (w5.drewN nq) ⟨w.heap.size, 0, none⟩ = some (.int .i64 x.m.kd) := (HX6.out).cell 0
    have d1 : World.cell? (w5.drewN nq) ⟨w.heap.size, 1, none⟩ = some (.int .i64 x.m.fr) := (HX6.out).cell 1
    have d2 : World.cell? (w5.drewN nq) ⟨w.heap.size, 2, none⟩ = some (.int .i64 x.m.vw) := (HX6.out).cell 2
    have d3 : World.cell? (w5.drewN nq) ⟨w.heap.size, 3, none⟩ = some (.int .i64 x.m.ins) := (HX6.out).cell 3
    have d4 : World.cell? (w5.drewN nq) ⟨w.heap.size, 4, none⟩ = some (.int .i64 x.m.sq) := (HX6.out).cell 4
    have d5 : World.cell? (w5.drewN nq) ⟨w.heap.size, 5, none⟩ = some (.int .i64 x.m.rs) := (HX6.out).cell 5
    have d6 : World.cell? (w5.drewN nq) ⟨w.heap.size, 6, none⟩ = some (.slice x.A1 x.m.bt.length x.c1) := (HX6.out).cell 6
    have d7 : World.cell? (w5.drewN nq) ⟨w.heap.size, 7, none⟩ = some (.slice x.A2 x.m.vs.length x.c2) := (HX6.out).cell 7
    have d8 : World.cell? (w5.drewN nq) ⟨w.heap.size, 8, none⟩ = some (.slice x.A3 x.m.cs.length x.c3) := (HX6.out).cell 8
    have d9 : World.cell? (w5.drewN nq) ⟨w.heap.size, 9, none⟩ = some (.slice x.A4 x.m.ps.length x.c4) := (HX6.out).cell 9
    have f0 : World.cell? (w5.drewN nq) ⟨g3, 0, none⟩ = some (.int .i64 y.m.kd) := (HY6.out).cell 0
    have f1 : World.cell? (w5.drewN nq) ⟨g3, 1, none⟩ = some (.int .i64 y.m.fr) := (HY6.out).cell 1
    have f2 : World.cell? (w5.drewN nq) ⟨g3, 2, none⟩ = some (.int .i64 y.m.vw) := (HY6.out).cell 2
    have f3 : World.cell? (w5.drewN nq) ⟨g3, 3, none⟩ = some (.int .i64 y.m.ins) := (HY6.out).cell 3
    have f4 : World.cell? (w5.drewN nq) ⟨g3, 4, none⟩ = some (.int .i64 y.m.sq) := (HY6.out).cell 4
    have f5 : World.cell? (w5.drewN nq) ⟨g3, 5, none⟩ = some (.int .i64 y.m.rs) := (HY6.out).cell 5
    have f6 : World.cell? (w5.drewN nq) ⟨g3, 6, none⟩ = some (.slice y.A1 y.m.bt.length y.c1) := (HY6.out).cell 6
    have f7 : World.cell? (w5.drewN nq) ⟨g3, 7, none⟩ = some (.slice y.A2 y.m.vs.length y.c2) := (HY6.out).cell 7
    have f8 : World.cell? (w5.drewN nq) ⟨g3, 8, none⟩ = some (.slice y.A3 y.m.cs.length y.c3) := (HY6.out).cell 8
    have f9 : World.cell? (w5.drewN nq) ⟨g3, 9, none⟩ = some (.slice y.A4 y.m.ps.length y.c4) := (HY6.out).cell 9
    clear HB5 HX5 HY5 HYo5 HI6 HS 
    go_wp2_with fail
    refine KM.out.mono ?_
    rintro e w7 ⟨rfl, hb7⟩
    have HB7 := Lib.hid (HB6.out.trans (hb7.mono HB6.out.size))
    have HX7 := Lib.hid (HX6.out.below hb7 HX6.out.lt)
    clear d0 d1 d2 d3 d4 d5 d6 d7 d8 d9
    clear f0 f1 f2 f3 f4 f5 f6 f7 f8 f9
    clear hb7 KM HB6 HX6 HY6
    go_wp2_with fail
    refine (wakes6_any _).mono ?_
    rintro e wz ⟨rfl, hbz⟩
    have HQ := Lib.hid (HB7.out.trans (hbz.mono HB7.out.size))
    clear hbz
    go_wp2_with fail
    go_ret
    exact ⟨rfl, HQ.out⟩
theorem msgsBodies_walk (x : Ms) (w : World) (hx : x.Came w) :
    Calls Tryz.prog 6 #[.agg #[.int .i64 x.m.kd, .int .i64 x.m.fr, .int .i64 x.m.vw, .int .i64 x.m.ins, .int .i64 x.m.sq, .int .i64 x.m.rs, .slice x.A1 x.m.bt.length x.c1, .slice x.A2 x.m.vs.length x.c2, .slice x.A3 x.m.cs.length x.c3, .slice x.A4 x.m.ps.length x.c4]] w fun e w' => e = .returned (.bool true) ∧ Below w.heap.size w w' := by
  cases hv : heavyM x.m
  · exact msgsBodies_light x w hx.in_ (full_msg hx hv) hv
  · exact msgsBodies_heavy x w hx.in_ hv
end Go.Proofs.YtbebfgfpdcdcoaaGreat
