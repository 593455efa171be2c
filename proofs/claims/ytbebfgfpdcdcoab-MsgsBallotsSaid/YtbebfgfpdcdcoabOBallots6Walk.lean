/- The walk of MsgsBallots: it returns true for any certificate. -/
import Derived.Test.YtbebfgfpdcdcoabOMsgWake
import Derived.Test.YtbebfgfpdcdcoabOMsgHeavy
import Derived.Test.YtbebfgfpdcdcoabOS6
namespace Go.Proofs.Ytbebfgfpdcdcoab
open Go.RowKit Go.Sort

theorem blk_cells5 {w : World} {g t : Nat} {a0 a1 a2 a3 a4 : Value} (h : Blk w g t #[a0, a1, a2, a3, a4]) :
    (∀ d os, (grow (redrawn w d) os).cell? ⟨g, 0, none⟩ = some a0) ∧ (∀ d os, (grow (redrawn w d) os).cell? ⟨g, 1, none⟩ = some a1) ∧ (∀ d os, (grow (redrawn w d) os).cell? ⟨g, 2, none⟩ = some a2) ∧ (∀ d os, (grow (redrawn w d) os).cell? ⟨g, 3, none⟩ = some a3) ∧ (∀ d os, (grow (redrawn w d) os).cell? ⟨g, 4, none⟩ = some a4) :=
  ⟨cell_regrown (h.cell 0), cell_regrown (h.cell 1), cell_regrown (h.cell 2), cell_regrown (h.cell 3), cell_regrown (h.cell 4)⟩
/-- A list of one certificate. -/
theorem one_cert {w : World} {B g : Nat} {x : Cs} (hb : Blk w g 42 #[.int .i64 x.c.vw, .int .i64 x.c.ins, .int .i64 x.c.sq, .slice x.A1 x.c.bt.length x.c1, .slice x.A2 x.c.vs.length x.c2]) (hg : g < B) (hx : x.In w B) : HasCerts w B (some ⟨g, 0, none⟩) [x.c] :=
  ⟨[x], rfl, by have := hb.has hg; simpa [Cs.cells] using this, fun y hy => by simp at hy; subst hy; exact hx⟩
set_option maxHeartbeats 4000000 in
set_option maxRecDepth 100000 in
theorem msgsBallots_in (kd nd : Int) (x : Cs) (w : World) (hx : x.In w w.heap.size) :
    Calls Try.prog 4 #[.int .i64 kd, .int .i64 nd, .agg #[.int .i64 x.c.vw, .int .i64 x.c.ins, .int .i64 x.c.sq, .slice x.A1 x.c.bt.length x.c1, .slice x.A2 x.c.vs.length x.c2]] w fun e w' => e = .returned (.bool true) ∧ Below w.heap.size w w' := by
  have hb1 : Below w.heap.size w ((w.alloc (.cells #[.int .i64 x.c.vw, .int .i64 x.c.ins, .int .i64 x.c.sq, .slice x.A1 x.c.bt.length x.c1, .slice x.A2 x.c.vs.length x.c2] 42)).alloc (.cells #[.int .i64 x.c.vw, .int .i64 x.c.ins, .int .i64 x.c.sq, .slice x.A1 x.c.bt.length x.c1, .slice x.A2 x.c.vs.length x.c2] 42)) := ((Below.refl _ w).alloc (Nat.le_refl _) _).alloc (by simp) _
  have HB1 := Lib.hid hb1
  have hi1 := hx.reads (Reads.below hb1 (Nat.le_refl _))
  have hi1 := hi1.reads (Reads.more hb1.size)
  have HI1 := Lib.hid hi1
  have HC := Lib.hid (show Blk ((w.alloc (.cells #[.int .i64 x.c.vw, .int .i64 x.c.ins, .int .i64 x.c.sq, .slice x.A1 x.c.bt.length x.c1, .slice x.A2 x.c.vs.length x.c2] 42)).alloc (.cells #[.int .i64 x.c.vw, .int .i64 x.c.ins, .int .i64 x.c.sq, .slice x.A1 x.c.bt.length x.c1, .slice x.A2 x.c.vs.length x.c2] 42)) w.heap.size 42 #[.int .i64 x.c.vw, .int .i64 x.c.ins, .int .i64 x.c.sq, .slice x.A1 x.c.bt.length x.c1, .slice x.A2 x.c.vs.length x.c2] from (Blk.new _ _ _).alloc _)
  have HL := Lib.hid (one_cert (Blk.new1 w _ _ _) (by simp) hi1)
  clear hx hi1 hb1
  cases hv : heavyC [x.c]
  case true =>
    have HV := Lib.hid (fun (w' : World) (h : HasCerts w' w'.heap.size (some ⟨w.heap.size + 1, 0, none⟩) [x.c]) => heavy_certs (some ⟨w.heap.size + 1, 0, none⟩) 1 [x.c] w'.heap.size w' h)
    rw [hv] at HV
    clear hv
    go_enter Try.func4, Try.ntmps4
    go_wp2_with fail
    obtain ⟨w1, hw1⟩ : ∃ w1, ((w.alloc (.cells #[.int .i64 x.c.vw, .int .i64 x.c.ins, .int .i64 x.c.sq, .slice x.A1 x.c.bt.length x.c1, .slice x.A2 x.c.vs.length x.c2] 42)).alloc (.cells #[.int .i64 x.c.vw, .int .i64 x.c.ins, .int .i64 x.c.sq, .slice x.A1 x.c.bt.length x.c1, .slice x.A2 x.c.vs.length x.c2] 42)) = w1 := ⟨_, rfl⟩
    rw [hw1] at HB1 HI1 HC HL ⊢
    clear hw1
    refine (HV.out w1 HL.out).mono ?_
    rintro e w2 ⟨rfl, rfl⟩
    clear HV HL
    go_wp2_with fail
    refine (wakes6_any _).mono ?_
    rintro e wz ⟨rfl, hbz⟩
    have HZ := Lib.hid (HB1.out.trans (hbz.mono HB1.out.size))
    clear hbz
    go_wp2_with fail
    go_ret
    exact ⟨rfl, HZ.out⟩
  case false =>
    have HV := Lib.hid (fun (w' : World) (h : HasCerts w' w'.heap.size (some ⟨w.heap.size + 1, 0, none⟩) [x.c]) => heavy_certs (some ⟨w.heap.size + 1, 0, none⟩) 1 [x.c] w'.heap.size w' h)
    rw [hv] at HV
    have hlt := (light_of hv).2 x.c (by simp)
    have hbt : x.c.bt.length ≤ 1000000 := by omega
    have HSm := Lib.hid (show smallMs (ballotM kd nd x.c) from ⟨by show x.c.bt.length ≤ _; omega, Nat.zero_le _, Nat.zero_le _, by simp [ballotM], Nat.zero_le _, by simp [ballotM]⟩)
    clear hv hlt
    go_enter Try.func4, Try.ntmps4
    go_wp2_with fail
    obtain ⟨w1, hw1⟩ : ∃ w1, ((w.alloc (.cells #[.int .i64 x.c.vw, .int .i64 x.c.ins, .int .i64 x.c.sq, .slice x.A1 x.c.bt.length x.c1, .slice x.A2 x.c.vs.length x.c2] 42)).alloc (.cells #[.int .i64 x.c.vw, .int .i64 x.c.ins, .int .i64 x.c.sq, .slice x.A1 x.c.bt.length x.c1, .slice x.A2 x.c.vs.length x.c2] 42)) = w1 := ⟨_, rfl⟩
    rw [hw1] at HB1 HI1 HC HL ⊢
    clear hw1
    refine (HV.out w1 HL.out).mono ?_
    rintro e w2 ⟨rfl, rfl⟩
    clear HV HL
    have d0 := HC.out.cell 0
    have d1 := HC.out.cell 1
    have d2 := HC.out.cell 2
    have d3 := HC.out.cell 3
    have d4 := HC.out.cell 4
    simp only [List.getElem?_toArray, List.getElem?_cons_zero, List.getElem?_cons_succ] at d0 d1 d2 d3 d4
    go_wp2_with fail
    clear d0 d1 d2 d3 d4
    refine (ballot_any kd nd x w1 HI1.out hbt).mono ?_
    rintro e w3 ⟨A, c, rfl, ho, hb⟩
    have HB3 := Lib.hid (HB1.out.trans (hb.mono HB1.out.size))
    have HC3 := Lib.hid (HC.out.below hb HC.out.lt)
    have HI3 := Lib.hid ((HI1.out.reads (Reads.below hb (Nat.le_refl _))).reads (Reads.more hb.size))
    have HO3 := Lib.hid (Has.ownS ho)
    clear ho hb HB1 HC HI1
    go_wp2_with fail
    have hb4 : Below w3.heap.size w3 (w3.alloc (.cells #[.int .i64 kd, .int .i64 nd, .int .i64 x.c.vw, .int .i64 x.c.ins, .int .i64 x.c.sq, .int .i64 0, .slice A x.c.bt.length c, .slice none 0 0, .slice none 0 0, .slice none 0 0] 29)) := (Below.refl _ _).alloc (Nat.le_refl _) _
    have HM4 := Lib.hid (Blk.new w3 29 #[.int .i64 kd, .int .i64 nd, .int .i64 x.c.vw, .int .i64 x.c.ins, .int .i64 x.c.sq, .int .i64 0, .slice A x.c.bt.length c, .slice none 0 0, .slice none 0 0, .slice none 0 0])
    have HB4 := Lib.hid (HB3.out.trans (hb4.mono HB3.out.size))
    have HC4 := Lib.hid (HC3.out.below hb4 HC3.out.lt)
    have HI4 := Lib.hid ((HI3.out.reads (Reads.below hb4 (Nat.le_refl _))).reads (Reads.more hb4.size))
    have HO4 := Lib.hid ((HO3.out.below hb4 (Nat.le_refl _)).more hb4.size)
    obtain ⟨w4, hw4⟩ : ∃ w4, (w3.alloc (.cells #[.int .i64 kd, .int .i64 nd, .int .i64 x.c.vw, .int .i64 x.c.ins, .int .i64 x.c.sq, .int .i64 0, .slice A x.c.bt.length c, .slice none 0 0, .slice none 0 0, .slice none 0 0] 29)) = w4 := ⟨_, rfl⟩
    obtain ⟨g4, hg4⟩ : ∃ g, w3.heap.size = g := ⟨_, rfl⟩
    rw [hw4] at HM4 HB4 HC4 HI4 HO4 ⊢
    rw [hg4] at HM4 ⊢
    clear hb4 hw4 hg4 HB3 HC3 HI3 HO3
    have hx1 : (Ms.mk (ballotM kd nd x.c) A c none 0 none 0 none 0).In w4 w4.heap.size := ⟨HO4.out, Has.nil _ _ _, ⟨[], rfl, Has.nil _ _ _, by simp⟩, ⟨[], rfl, Has.nil _ _ _, by simp⟩⟩
    have hx2 : (Ms.mk (ballotM kd nd x.c) x.A1 x.c1 none 0 none 0 none 0).In w4 w4.heap.size := ⟨HI4.out.bt, Has.nil _ _ _, ⟨[], rfl, Has.nil _ _ _, by simp⟩, ⟨[], rfl, Has.nil _ _ _, by simp⟩⟩
    have KM0 := Lib.hid (fun w' (hw : Below w4.heap.size w4 w') => keep_msg (Ms.mk (ballotM kd nd x.c) A c none 0 none 0 none 0) (Ms.mk (ballotM kd nd x.c) x.A1 x.c1 none 0 none 0 none 0) w4.heap.size w' (hx1.reads (Reads.below hw (Nat.le_refl _))) (hx2.reads (Reads.below hw (Nat.le_refl _))) hw.size HSm.out)
    simp only [decide_true, ballotM, List.length_nil] at KM0
    have KM := fun d os => Calls.regrown_of (KM0.out (grow (redrawn w4 d) os) (below_regrown w4 d os))
    have KB := fun d os => Calls.regrown_of (rballot_any kd nd x (grow (redrawn w4 d) os))
    have KW := fun d os => Calls.regrown_of (wakes6_any (grow (redrawn w4 d) os))
    obtain ⟨d0, d1, d2, d3, d4, d5, d6, d7, d8, d9⟩ := blk_cells10 HM4.out
    obtain ⟨g0, g1, g2, g3, g4⟩ := blk_cells5 HC4.out
    clear hx1 hx2 KM0 HM4 HC4 HI4 HO4
    refine wp_region_quiet_below (by kernel_rfl) (by kernel_rfl) ?_
    refine wq_out ?_
    refine wq_do (by kernel_rfl) (fun K hK => ?_)
    go_simp
    refine hK _ ?_
    clear hK K
    refine wq_do (by kernel_rfl) (fun K hK => ?_)
    go_simp
    refine hK _ ?_
    clear hK K
    refine wq_do (by kernel_rfl) (fun K hK => ?_)
    go_simp
    refine hK _ ?_
    clear hK K
    refine wq_do (by kernel_rfl) (fun K hK => ?_)
    go_simp
    refine hK _ ?_
    clear hK K
    refine wq_do (by kernel_rfl) (fun K hK => ?_)
    go_simp
    apply Exists.intro
    refine ⟨fun a => ?_, hK _ ?_⟩
    · exact KB a.d a.os
    clear hK K
    refine wq_do (by kernel_rfl) (fun K hK => ?_)
    go_simp
    apply Exists.intro
    refine ⟨fun a => ?_, hK _ ?_⟩
    · exact KM a.d a.os
    clear hK K
    refine wq_do (by kernel_rfl) (fun K hK => ?_)
    go_simp
    refine hK _ ?_
    clear hK K
    refine wq_do (by kernel_rfl) (fun K hK => ?_)
    go_simp
    apply Exists.intro
    refine ⟨fun a => ?_, hK _ ?_⟩
    · exact KW a.d a.os
    clear hK K
    refine wq_do (by kernel_rfl) (fun K hK => ?_)
    go_simp
    refine hK _ ?_
    clear hK K
    refine wq_do (by kernel_rfl) (fun K hK => ?_)
    go_simp
    refine hK _ ?_
    clear hK K
    refine wq_nil ?_
    intro _ hw'
    obtain ⟨⟨dq, osq⟩, hw''⟩ := hw'
    subst hw''
    have HZ := Lib.hid (HB4.out.trans ((below_regrown w4 dq osq).mono HB4.out.size))
    clear KM KB KW d0 d1 d2 d3 d4 d5 d6 d7 d8 d9 g0 g1 g2 g3 g4
    go_wp2_with fail
    go_ret
    exact ⟨rfl, HZ.out⟩
theorem msgsBallots_walk (kd nd : Int) (x : Cs) (w : World) (_ : (Lit.int .i64 kd).wf = true) (_ : (Lit.int .i64 nd).wf = true) (hx : x.Came w) :
    Calls Try.prog 4 #[.int .i64 kd, .int .i64 nd, .agg #[.int .i64 x.c.vw, .int .i64 x.c.ins, .int .i64 x.c.sq, .slice x.A1 x.c.bt.length x.c1, .slice x.A2 x.c.vs.length x.c2]] w fun e w' => e = .returned (.bool true) ∧ Below w.heap.size w w' := msgsBallots_in kd nd x w hx.in_
end Go.Proofs.Ytbebfgfpdcdcoab
