/- The contract of the document's Form at kind 3. -/
import Derived.Test.YtbegjadohamkkaaGreatOS9
import Derived.Test.YtbegjadohamkkaaGreatOS5
namespace Go.Proofs.YtbegjadohamkkaaGreat
open Go.RowKit Go.Sort

set_option maxHeartbeats 8000000 in
set_option maxRecDepth 100000 in
theorem rform3 (x : Ms) (hk : x.m.kd = 3) {w : World} (h : x.In w w.heap.size) (hs : x.m.Short) (f n : Int) (hf : 1 ≤ f ∧ f ≤ 4) (hfr : 0 ≤ x.m.fr ∧ x.m.fr < 3 * f + 1) :
    Calls Tryz.prog 28 #[.agg #[.int .i64 x.m.kd, .int .i64 x.m.fr, .int .i64 x.m.vw, .int .i64 x.m.ins, .int .i64 x.m.sq, .int .i64 x.m.rs, .slice x.A1 x.m.bt.length x.c1, .slice x.A2 x.m.vs.length x.c2, .slice x.A3 x.m.cs.length x.c3, .slice x.A4 x.m.ps.length x.c4], .int .i64 f, .int .i64 n] w fun e w' => e = .returned (.bool (blankS true true true false true false false false x.m && (spotS x.m.vw x.m.ins x.m.sq f && (fewS x.m.bt n && (decide (x.m.bt ≠ []) && (x.m.fr == primaryS f x.m.vw x.m.ins)))))) ∧ Below w.heap.size w w' := by
  rw [hk]
  have HB := Lib.hid (show Below w.heap.size w (w.alloc (.cells #[.int .i64 3, .int .i64 x.m.fr, .int .i64 x.m.vw, .int .i64 x.m.ins, .int .i64 x.m.sq, .int .i64 x.m.rs, .slice x.A1 x.m.bt.length x.c1, .slice x.A2 x.m.vs.length x.c2, .slice x.A3 x.m.cs.length x.c3, .slice x.A4 x.m.ps.length x.c4] 38)) from (Below.refl _ w).alloc (Nat.le_refl _) _)
  have HBl := Lib.hid (show Blk (w.alloc (.cells #[.int .i64 3, .int .i64 x.m.fr, .int .i64 x.m.vw, .int .i64 x.m.ins, .int .i64 x.m.sq, .int .i64 x.m.rs, .slice x.A1 x.m.bt.length x.c1, .slice x.A2 x.m.vs.length x.c2, .slice x.A3 x.m.cs.length x.c3, .slice x.A4 x.m.ps.length x.c4] 38)) w.heap.size 38 #[.int .i64 3, .int .i64 x.m.fr, .int .i64 x.m.vw, .int .i64 x.m.ins, .int .i64 x.m.sq, .int .i64 x.m.rs, .slice x.A1 x.m.bt.length x.c1, .slice x.A2 x.m.vs.length x.c2, .slice x.A3 x.m.cs.length x.c3, .slice x.A4 x.m.ps.length x.c4] from Blk.new _ _ _)
  have KN := Lib.hid (fun w => (rnodes_any f w).mono (R' := fun e w' => e = .returned (.int .i64 (3 * f + 1)) ∧ w' = w) (fun e w' he => ⟨by rw [he.1, nodesS_in hf.1 hf.2], he.2.symm⟩))
  have KNB := Lib.hid (fun w => (KN.out w).mono (R' := fun e w' => e = .returned (.int .i64 (3 * f + 1)) ∧ Below w.heap.size w w') (fun e w' he => ⟨he.1, by rw [he.2]; exact Below.refl _ _⟩))
  have tn : ((3 * f + 1 : Int) == 0) = false := by rw [beq_eq_false_iff_ne]; omega
  have u1 : decide (x.m.fr < 0) = false := decide_eq_false (by omega)
  have u2 : decide (3 * f + 1 ≤ x.m.fr) = false := decide_eq_false (by omega)
  have HK := Lib.hid (fun w => rblank_visb x w)
  rw [hk] at HK
  have HP := Lib.hid (fun w => (rspot_any x.m.vw x.m.ins x.m.sq f w).mono (R' := fun e w' => e = .returned (.bool (spotS x.m.vw x.m.ins x.m.sq f)) ∧ Below w.heap.size w w') (fun e w' he => ⟨he.1, by rw [he.2]; exact Below.refl _ _⟩))
  have HR := Lib.hid (fun w => (rprimary_any f x.m.vw x.m.ins w).mono (R' := fun e w' => e = .returned (.int .i64 (primaryS f x.m.vw x.m.ins)) ∧ Below w.heap.size w w') (fun e w' he => ⟨he.1, by rw [← he.2]; exact Below.refl _ _⟩))
  have HH := Lib.hid h.bt
  have HL := Lib.hid (show x.m.bt.length ≤ 9223372036854775806 by have := hs.bt; omega)
  cases hb : blankS true true true false true false false false x.m
  · rw [hb] at HK
    clear h hs hk hf hfr hb HP HR HH HL
    go_enter Tryz.func28, Tryz.ntmps28
    go_wp2_with fail
    refine (KN.out _).mono ?_
    rintro e w' ⟨rfl, rfl⟩
    go_wp2_with fail
    obtain ⟨w1, hw1⟩ : ∃ w1, w.alloc (.cells #[.int .i64 3, .int .i64 x.m.fr, .int .i64 x.m.vw, .int .i64 x.m.ins, .int .i64 x.m.sq, .int .i64 x.m.rs, .slice x.A1 x.m.bt.length x.c1, .slice x.A2 x.m.vs.length x.c2, .slice x.A3 x.m.cs.length x.c3, .slice x.A4 x.m.ps.length x.c4] 38) = w1 := ⟨_, rfl⟩
    obtain ⟨g1, hg1⟩ : ∃ g1, w.heap.size = g1 := ⟨_, rfl⟩
    have HG1 := Lib.hid hg1
    have HB1 := HB
    rw [hw1] at HB1 HBl ⊢
    rw [hg1] at HBl ⊢
    clear hw1 hg1
    obtain ⟨d0, d1, d2, d3, d4, d5, d6, d7, d8, d9⟩ := blk_cells10 HBl.out
    have KQ := fun d os => Calls.regrown_of (KNB.out (grow (redrawn w1 d) os))
    refine wp_region_quiet_below (by kernel_rfl) (by kernel_rfl) ?_
    refine wq_out ?_
    iterate 7 (refine wq_do (by kernel_rfl) (fun K hK => ?_); go_simp; refine hK _ ?_; clear hK K)
    refine wq_do (by kernel_rfl) (fun K hK => ?_)
    go_simp
    apply Exists.intro
    refine ⟨fun a => ?_, hK _ ?_⟩
    · exact KQ a.d a.os
    clear hK K
    iterate 2 (refine wq_do (by kernel_rfl) (fun K hK => ?_); go_simp; refine hK _ ?_; clear hK K)
    refine wq_nil ?_
    intro _ hw'
    obtain ⟨⟨da, oa⟩, hw''⟩ := hw'
    subst hw''
    have HB2 := Lib.hid (HB1.out.trans ((below_regrown w1 da oa).mono HB1.out.size))
    clear KQ d0 d1 d2 d3 d4 d5 d6 d7 d8 d9
    have HBl3 := Lib.hid (HBl.out.below (below_regrown w1 da oa) HBl.out.lt)
    obtain ⟨w3, hw3⟩ : ∃ w3, grow (redrawn w1 da) oa = w3 := ⟨_, rfl⟩
    have HB3 := HB2
    rw [hw3] at HB3 HBl3 ⊢
    clear hw3 HB2
    have e0 := HBl3.out.cell 0
    have e1 := HBl3.out.cell 1
    have e2 := HBl3.out.cell 2
    have e3 := HBl3.out.cell 3
    have e4 := HBl3.out.cell 4
    have e5 := HBl3.out.cell 5
    have e6 := HBl3.out.cell 6
    have e7 := HBl3.out.cell 7
    have e8 := HBl3.out.cell 8
    have e9 := HBl3.out.cell 9
    simp only [List.getElem?_toArray, List.getElem?_cons_zero, List.getElem?_cons_succ] at e0 e1 e2 e3 e4 e5 e6 e7 e8 e9
    go_wp2_with fail
    clear e0 e1 e2 e3 e4 e5 e6 e7 e8 e9
    obtain ⟨d0, d1, d2, d3, d4, d5, d6, d7, d8, d9⟩ := blk_cells10 HBl3.out
    have KB := fun d os => Calls.regrown_of (HK.out (grow (redrawn w3 d) os))
    refine wp_region_quiet_below (by kernel_rfl) (by kernel_rfl) ?_
    refine wq_out ?_
    refine wq_do (by kernel_rfl) (fun K hK => ?_)
    go_simp
    refine hK _ ?_
    clear hK K
    refine wq_do (by kernel_rfl) (fun K hK => ?_)
    go_simp
    apply Exists.intro
    refine ⟨fun a => ?_, hK _ ?_⟩
    · exact KB a.d a.os
    clear hK K
    refine wq_do (by kernel_rfl) (fun K hK => ?_)
    go_simp
    refine hK _ ?_
    clear hK K
    iterate 8 (refine wq_skip (by kernel_rfl) ?_)
    iterate 2 (refine wq_do (by kernel_rfl) (fun K hK => ?_); go_simp; refine hK _ ?_; clear hK K)
    iterate 4 (refine wq_skip (by kernel_rfl) ?_)
    iterate 2 (refine wq_do (by kernel_rfl) (fun K hK => ?_); go_simp; refine hK _ ?_; clear hK K)
    iterate 4 (refine wq_skip (by kernel_rfl) ?_)
    iterate 2 (refine wq_do (by kernel_rfl) (fun K hK => ?_); go_simp; refine hK _ ?_; clear hK K)
    iterate 9 (refine wq_skip (by kernel_rfl) ?_)
    iterate 2 (refine wq_do (by kernel_rfl) (fun K hK => ?_); go_simp; refine hK _ ?_; clear hK K)
    refine wq_nil ?_
    intro _ hw'
    obtain ⟨⟨db, ob⟩, hw''⟩ := hw'
    subst hw''
    have HB5 := Lib.hid (HB3.out.trans ((below_regrown w3 db ob).mono HB3.out.size))
    clear d0 d1 d2 d3 d4 d5 d6 d7 d8 d9 KB
    go_wp2_with fail
    go_ret
    exact ⟨rfl, HB5.out⟩
  · rw [hb] at HK
    clear hb
    cases hsp : spotS x.m.vw x.m.ins x.m.sq f
    · rw [hsp] at HP
      clear h hs hk hf hfr hsp HR HH HL
      go_enter Tryz.func28, Tryz.ntmps28
      go_wp2_with fail
      refine (KN.out _).mono ?_
      rintro e w' ⟨rfl, rfl⟩
      go_wp2_with fail
      obtain ⟨w1, hw1⟩ : ∃ w1, w.alloc (.cells #[.int .i64 3, .int .i64 x.m.fr, .int .i64 x.m.vw, .int .i64 x.m.ins, .int .i64 x.m.sq, .int .i64 x.m.rs, .slice x.A1 x.m.bt.length x.c1, .slice x.A2 x.m.vs.length x.c2, .slice x.A3 x.m.cs.length x.c3, .slice x.A4 x.m.ps.length x.c4] 38) = w1 := ⟨_, rfl⟩
      obtain ⟨g1, hg1⟩ : ∃ g1, w.heap.size = g1 := ⟨_, rfl⟩
      have HG1 := Lib.hid hg1
      have HB1 := HB
      rw [hw1] at HB1 HBl ⊢
      rw [hg1] at HBl ⊢
      clear hw1 hg1
      obtain ⟨d0, d1, d2, d3, d4, d5, d6, d7, d8, d9⟩ := blk_cells10 HBl.out
      have KQ := fun d os => Calls.regrown_of (KNB.out (grow (redrawn w1 d) os))
      refine wp_region_quiet_below (by kernel_rfl) (by kernel_rfl) ?_
      refine wq_out ?_
      iterate 7 (refine wq_do (by kernel_rfl) (fun K hK => ?_); go_simp; refine hK _ ?_; clear hK K)
      refine wq_do (by kernel_rfl) (fun K hK => ?_)
      go_simp
      apply Exists.intro
      refine ⟨fun a => ?_, hK _ ?_⟩
      · exact KQ a.d a.os
      clear hK K
      iterate 2 (refine wq_do (by kernel_rfl) (fun K hK => ?_); go_simp; refine hK _ ?_; clear hK K)
      refine wq_nil ?_
      intro _ hw'
      obtain ⟨⟨da, oa⟩, hw''⟩ := hw'
      subst hw''
      have HB2 := Lib.hid (HB1.out.trans ((below_regrown w1 da oa).mono HB1.out.size))
      clear KQ d0 d1 d2 d3 d4 d5 d6 d7 d8 d9
      have HBl3 := Lib.hid (HBl.out.below (below_regrown w1 da oa) HBl.out.lt)
      obtain ⟨w3, hw3⟩ : ∃ w3, grow (redrawn w1 da) oa = w3 := ⟨_, rfl⟩
      have HB3 := HB2
      rw [hw3] at HB3 HBl3 ⊢
      clear hw3 HB2
      have e0 := HBl3.out.cell 0
      have e1 := HBl3.out.cell 1
      have e2 := HBl3.out.cell 2
      have e3 := HBl3.out.cell 3
      have e4 := HBl3.out.cell 4
      have e5 := HBl3.out.cell 5
      have e6 := HBl3.out.cell 6
      have e7 := HBl3.out.cell 7
      have e8 := HBl3.out.cell 8
      have e9 := HBl3.out.cell 9
      simp only [List.getElem?_toArray, List.getElem?_cons_zero, List.getElem?_cons_succ] at e0 e1 e2 e3 e4 e5 e6 e7 e8 e9
      go_wp2_with fail
      clear e0 e1 e2 e3 e4 e5 e6 e7 e8 e9
      obtain ⟨d0, d1, d2, d3, d4, d5, d6, d7, d8, d9⟩ := blk_cells10 HBl3.out
      have KB := fun d os => Calls.regrown_of (HK.out (grow (redrawn w3 d) os))
      have KP := fun d os => Calls.regrown_of (HP.out (grow (redrawn w3 d) os))
      refine wp_region_quiet_below (by kernel_rfl) (by kernel_rfl) ?_
      refine wq_out ?_
      refine wq_do (by kernel_rfl) (fun K hK => ?_)
      go_simp
      refine hK _ ?_
      clear hK K
      refine wq_do (by kernel_rfl) (fun K hK => ?_)
      go_simp
      apply Exists.intro
      refine ⟨fun a => ?_, hK _ ?_⟩
      · exact KB a.d a.os
      clear hK K
      iterate 8 (refine wq_do (by kernel_rfl) (fun K hK => ?_); go_simp; refine hK _ ?_; clear hK K)
      refine wq_do (by kernel_rfl) (fun K hK => ?_)
      go_simp
      apply Exists.intro
      refine ⟨fun a => ?_, hK _ ?_⟩
      · exact KP a.d a.os
      clear hK K
      iterate 2 (refine wq_do (by kernel_rfl) (fun K hK => ?_); go_simp; refine hK _ ?_; clear hK K)
      iterate 4 (refine wq_skip (by kernel_rfl) ?_)
      iterate 2 (refine wq_do (by kernel_rfl) (fun K hK => ?_); go_simp; refine hK _ ?_; clear hK K)
      iterate 4 (refine wq_skip (by kernel_rfl) ?_)
      iterate 2 (refine wq_do (by kernel_rfl) (fun K hK => ?_); go_simp; refine hK _ ?_; clear hK K)
      iterate 9 (refine wq_skip (by kernel_rfl) ?_)
      iterate 2 (refine wq_do (by kernel_rfl) (fun K hK => ?_); go_simp; refine hK _ ?_; clear hK K)
      refine wq_nil ?_
      intro _ hw'
      obtain ⟨⟨db, ob⟩, hw''⟩ := hw'
      subst hw''
      have HB5 := Lib.hid (HB3.out.trans ((below_regrown w3 db ob).mono HB3.out.size))
      clear d0 d1 d2 d3 d4 d5 d6 d7 d8 d9 KB KP
      go_wp2_with fail
      go_ret
      exact ⟨rfl, HB5.out⟩
    · rw [hsp] at HP
      clear hsp
      cases hfw : fewS x.m.bt n
      · have HFW := Lib.hid hfw
        clear h hs hk hf hfr hfw HR
        go_enter Tryz.func28, Tryz.ntmps28
        go_wp2_with fail
        refine (KN.out _).mono ?_
        rintro e w' ⟨rfl, rfl⟩
        go_wp2_with fail
        obtain ⟨w1, hw1⟩ : ∃ w1, w.alloc (.cells #[.int .i64 3, .int .i64 x.m.fr, .int .i64 x.m.vw, .int .i64 x.m.ins, .int .i64 x.m.sq, .int .i64 x.m.rs, .slice x.A1 x.m.bt.length x.c1, .slice x.A2 x.m.vs.length x.c2, .slice x.A3 x.m.cs.length x.c3, .slice x.A4 x.m.ps.length x.c4] 38) = w1 := ⟨_, rfl⟩
        obtain ⟨g1, hg1⟩ : ∃ g1, w.heap.size = g1 := ⟨_, rfl⟩
        have HG1 := Lib.hid hg1
        have HB1 := HB
        rw [hw1] at HB1 HBl ⊢
        rw [hg1] at HBl ⊢
        clear hw1 hg1
        obtain ⟨d0, d1, d2, d3, d4, d5, d6, d7, d8, d9⟩ := blk_cells10 HBl.out
        have KQ := fun d os => Calls.regrown_of (KNB.out (grow (redrawn w1 d) os))
        refine wp_region_quiet_below (by kernel_rfl) (by kernel_rfl) ?_
        refine wq_out ?_
        iterate 7 (refine wq_do (by kernel_rfl) (fun K hK => ?_); go_simp; refine hK _ ?_; clear hK K)
        refine wq_do (by kernel_rfl) (fun K hK => ?_)
        go_simp
        apply Exists.intro
        refine ⟨fun a => ?_, hK _ ?_⟩
        · exact KQ a.d a.os
        clear hK K
        iterate 2 (refine wq_do (by kernel_rfl) (fun K hK => ?_); go_simp; refine hK _ ?_; clear hK K)
        refine wq_nil ?_
        intro _ hw'
        obtain ⟨⟨da, oa⟩, hw''⟩ := hw'
        subst hw''
        have HB2 := Lib.hid (HB1.out.trans ((below_regrown w1 da oa).mono HB1.out.size))
        clear KQ d0 d1 d2 d3 d4 d5 d6 d7 d8 d9
        have HBl3 := Lib.hid (HBl.out.below (below_regrown w1 da oa) HBl.out.lt)
        obtain ⟨w3, hw3⟩ : ∃ w3, grow (redrawn w1 da) oa = w3 := ⟨_, rfl⟩
        have HB3 := HB2
        rw [hw3] at HB3 HBl3 ⊢
        clear hw3 HB2
        have e0 := HBl3.out.cell 0
        have e1 := HBl3.out.cell 1
        have e2 := HBl3.out.cell 2
        have e3 := HBl3.out.cell 3
        have e4 := HBl3.out.cell 4
        have e5 := HBl3.out.cell 5
        have e6 := HBl3.out.cell 6
        have e7 := HBl3.out.cell 7
        have e8 := HBl3.out.cell 8
        have e9 := HBl3.out.cell 9
        simp only [List.getElem?_toArray, List.getElem?_cons_zero, List.getElem?_cons_succ] at e0 e1 e2 e3 e4 e5 e6 e7 e8 e9
        go_wp2_with fail
        clear e0 e1 e2 e3 e4 e5 e6 e7 e8 e9
        obtain ⟨d0, d1, d2, d3, d4, d5, d6, d7, d8, d9⟩ := blk_cells10 HBl3.out
        have KB := fun d os => Calls.regrown_of (HK.out (grow (redrawn w3 d) os))
        have KP := fun d os => Calls.regrown_of (HP.out (grow (redrawn w3 d) os))
        have KF := fun d os => Calls.regrown_of (rfew_any (c := x.c1) (HH.out.below (HB3.out.trans ((below_regrown w3 d os).mono HB3.out.size)) (Nat.le_refl _)) HL.out n)
        rw [HFW.out] at KF
        refine wp_region_quiet_below (by kernel_rfl) (by kernel_rfl) ?_
        refine wq_out ?_
        refine wq_do (by kernel_rfl) (fun K hK => ?_)
        go_simp
        refine hK _ ?_
        clear hK K
        refine wq_do (by kernel_rfl) (fun K hK => ?_)
        go_simp
        apply Exists.intro
        refine ⟨fun a => ?_, hK _ ?_⟩
        · exact KB a.d a.os
        clear hK K
        iterate 8 (refine wq_do (by kernel_rfl) (fun K hK => ?_); go_simp; refine hK _ ?_; clear hK K)
        refine wq_do (by kernel_rfl) (fun K hK => ?_)
        go_simp
        apply Exists.intro
        refine ⟨fun a => ?_, hK _ ?_⟩
        · exact KP a.d a.os
        clear hK K
        iterate 5 (refine wq_do (by kernel_rfl) (fun K hK => ?_); go_simp; refine hK _ ?_; clear hK K)
        refine wq_do (by kernel_rfl) (fun K hK => ?_)
        go_simp
        apply Exists.intro
        refine ⟨fun a => ?_, hK _ ?_⟩
        · exact KF a.d a.os
        clear hK K
        iterate 2 (refine wq_do (by kernel_rfl) (fun K hK => ?_); go_simp; refine hK _ ?_; clear hK K)
        iterate 4 (refine wq_skip (by kernel_rfl) ?_)
        iterate 2 (refine wq_do (by kernel_rfl) (fun K hK => ?_); go_simp; refine hK _ ?_; clear hK K)
        iterate 9 (refine wq_skip (by kernel_rfl) ?_)
        iterate 2 (refine wq_do (by kernel_rfl) (fun K hK => ?_); go_simp; refine hK _ ?_; clear hK K)
        refine wq_nil ?_
        intro _ hw'
        obtain ⟨⟨db, ob⟩, hw''⟩ := hw'
        subst hw''
        have HB5 := Lib.hid (HB3.out.trans ((below_regrown w3 db ob).mono HB3.out.size))
        clear d0 d1 d2 d3 d4 d5 d6 d7 d8 d9 KB KP KF
        go_wp2_with fail
        go_ret
        exact ⟨rfl, HB5.out⟩
      · have HFW := Lib.hid hfw
        clear hfw
        by_cases hbt : x.m.bt = []
        · have t0 : decide ((0 : Int) < (x.m.bt.length : Int)) = false := decide_eq_false (by rw [hbt]; simp)
          have t1 : decide (0 < x.m.bt.length) = false := decide_eq_false (by rw [hbt]; simp)
          have t2 : ¬ 0 < x.m.bt.length := by rw [hbt]; simp
          rw [show decide (x.m.bt ≠ []) = false from decide_eq_false (by simpa using hbt)]
          clear h hs hk hf hfr hbt HR
          go_enter Tryz.func28, Tryz.ntmps28
          go_wp2_with fail
          refine (KN.out _).mono ?_
          rintro e w' ⟨rfl, rfl⟩
          go_wp2_with fail
          obtain ⟨w1, hw1⟩ : ∃ w1, w.alloc (.cells #[.int .i64 3, .int .i64 x.m.fr, .int .i64 x.m.vw, .int .i64 x.m.ins, .int .i64 x.m.sq, .int .i64 x.m.rs, .slice x.A1 x.m.bt.length x.c1, .slice x.A2 x.m.vs.length x.c2, .slice x.A3 x.m.cs.length x.c3, .slice x.A4 x.m.ps.length x.c4] 38) = w1 := ⟨_, rfl⟩
          obtain ⟨g1, hg1⟩ : ∃ g1, w.heap.size = g1 := ⟨_, rfl⟩
          have HG1 := Lib.hid hg1
          have HB1 := HB
          rw [hw1] at HB1 HBl ⊢
          rw [hg1] at HBl ⊢
          clear hw1 hg1
          obtain ⟨d0, d1, d2, d3, d4, d5, d6, d7, d8, d9⟩ := blk_cells10 HBl.out
          have KQ := fun d os => Calls.regrown_of (KNB.out (grow (redrawn w1 d) os))
          refine wp_region_quiet_below (by kernel_rfl) (by kernel_rfl) ?_
          refine wq_out ?_
          iterate 7 (refine wq_do (by kernel_rfl) (fun K hK => ?_); go_simp; refine hK _ ?_; clear hK K)
          refine wq_do (by kernel_rfl) (fun K hK => ?_)
          go_simp
          apply Exists.intro
          refine ⟨fun a => ?_, hK _ ?_⟩
          · exact KQ a.d a.os
          clear hK K
          iterate 2 (refine wq_do (by kernel_rfl) (fun K hK => ?_); go_simp; refine hK _ ?_; clear hK K)
          refine wq_nil ?_
          intro _ hw'
          obtain ⟨⟨da, oa⟩, hw''⟩ := hw'
          subst hw''
          have HB2 := Lib.hid (HB1.out.trans ((below_regrown w1 da oa).mono HB1.out.size))
          clear KQ d0 d1 d2 d3 d4 d5 d6 d7 d8 d9
          have HBl3 := Lib.hid (HBl.out.below (below_regrown w1 da oa) HBl.out.lt)
          obtain ⟨w3, hw3⟩ : ∃ w3, grow (redrawn w1 da) oa = w3 := ⟨_, rfl⟩
          have HB3 := HB2
          rw [hw3] at HB3 HBl3 ⊢
          clear hw3 HB2
          have e0 := HBl3.out.cell 0
          have e1 := HBl3.out.cell 1
          have e2 := HBl3.out.cell 2
          have e3 := HBl3.out.cell 3
          have e4 := HBl3.out.cell 4
          have e5 := HBl3.out.cell 5
          have e6 := HBl3.out.cell 6
          have e7 := HBl3.out.cell 7
          have e8 := HBl3.out.cell 8
          have e9 := HBl3.out.cell 9
          simp only [List.getElem?_toArray, List.getElem?_cons_zero, List.getElem?_cons_succ] at e0 e1 e2 e3 e4 e5 e6 e7 e8 e9
          go_wp2_with fail
          clear e0 e1 e2 e3 e4 e5 e6 e7 e8 e9
          obtain ⟨d0, d1, d2, d3, d4, d5, d6, d7, d8, d9⟩ := blk_cells10 HBl3.out
          have KB := fun d os => Calls.regrown_of (HK.out (grow (redrawn w3 d) os))
          have KP := fun d os => Calls.regrown_of (HP.out (grow (redrawn w3 d) os))
          have KF := fun d os => Calls.regrown_of (rfew_any (c := x.c1) (HH.out.below (HB3.out.trans ((below_regrown w3 d os).mono HB3.out.size)) (Nat.le_refl _)) HL.out n)
          rw [HFW.out] at KF
          refine wp_region_quiet_below (by kernel_rfl) (by kernel_rfl) ?_
          refine wq_out ?_
          refine wq_do (by kernel_rfl) (fun K hK => ?_)
          go_simp
          refine hK _ ?_
          clear hK K
          refine wq_do (by kernel_rfl) (fun K hK => ?_)
          go_simp
          apply Exists.intro
          refine ⟨fun a => ?_, hK _ ?_⟩
          · exact KB a.d a.os
          clear hK K
          iterate 8 (refine wq_do (by kernel_rfl) (fun K hK => ?_); go_simp; refine hK _ ?_; clear hK K)
          refine wq_do (by kernel_rfl) (fun K hK => ?_)
          go_simp
          apply Exists.intro
          refine ⟨fun a => ?_, hK _ ?_⟩
          · exact KP a.d a.os
          clear hK K
          iterate 5 (refine wq_do (by kernel_rfl) (fun K hK => ?_); go_simp; refine hK _ ?_; clear hK K)
          refine wq_do (by kernel_rfl) (fun K hK => ?_)
          go_simp
          apply Exists.intro
          refine ⟨fun a => ?_, hK _ ?_⟩
          · exact KF a.d a.os
          clear hK K
          iterate 8 (refine wq_do (by kernel_rfl) (fun K hK => ?_); go_simp; refine hK _ ?_; clear hK K)
          iterate 9 (refine wq_skip (by kernel_rfl) ?_)
          iterate 2 (refine wq_do (by kernel_rfl) (fun K hK => ?_); go_simp; refine hK _ ?_; clear hK K)
          refine wq_nil ?_
          intro _ hw'
          obtain ⟨⟨db, ob⟩, hw''⟩ := hw'
          subst hw''
          have HB5 := Lib.hid (HB3.out.trans ((below_regrown w3 db ob).mono HB3.out.size))
          clear d0 d1 d2 d3 d4 d5 d6 d7 d8 d9 KB KP KF
          go_wp2_with fail
          go_ret
          exact ⟨rfl, HB5.out⟩
        · have hp : 0 < x.m.bt.length := List.length_pos_iff.mpr hbt
          have t0 : decide ((0 : Int) < (x.m.bt.length : Int)) = true := decide_eq_true (by omega)
          have t1 : decide (0 < x.m.bt.length) = true := decide_eq_true hp
          rw [show decide (x.m.bt ≠ []) = true from decide_eq_true hbt]
          clear h hs hk hf hfr hbt
          go_enter Tryz.func28, Tryz.ntmps28
          go_wp2_with fail
          refine (KN.out _).mono ?_
          rintro e w' ⟨rfl, rfl⟩
          go_wp2_with fail
          obtain ⟨w1, hw1⟩ : ∃ w1, w.alloc (.cells #[.int .i64 3, .int .i64 x.m.fr, .int .i64 x.m.vw, .int .i64 x.m.ins, .int .i64 x.m.sq, .int .i64 x.m.rs, .slice x.A1 x.m.bt.length x.c1, .slice x.A2 x.m.vs.length x.c2, .slice x.A3 x.m.cs.length x.c3, .slice x.A4 x.m.ps.length x.c4] 38) = w1 := ⟨_, rfl⟩
          obtain ⟨g1, hg1⟩ : ∃ g1, w.heap.size = g1 := ⟨_, rfl⟩
          have HG1 := Lib.hid hg1
          have HB1 := HB
          rw [hw1] at HB1 HBl ⊢
          rw [hg1] at HBl ⊢
          clear hw1 hg1
          obtain ⟨d0, d1, d2, d3, d4, d5, d6, d7, d8, d9⟩ := blk_cells10 HBl.out
          have KQ := fun d os => Calls.regrown_of (KNB.out (grow (redrawn w1 d) os))
          refine wp_region_quiet_below (by kernel_rfl) (by kernel_rfl) ?_
          refine wq_out ?_
          iterate 7 (refine wq_do (by kernel_rfl) (fun K hK => ?_); go_simp; refine hK _ ?_; clear hK K)
          refine wq_do (by kernel_rfl) (fun K hK => ?_)
          go_simp
          apply Exists.intro
          refine ⟨fun a => ?_, hK _ ?_⟩
          · exact KQ a.d a.os
          clear hK K
          iterate 2 (refine wq_do (by kernel_rfl) (fun K hK => ?_); go_simp; refine hK _ ?_; clear hK K)
          refine wq_nil ?_
          intro _ hw'
          obtain ⟨⟨da, oa⟩, hw''⟩ := hw'
          subst hw''
          have HB2 := Lib.hid (HB1.out.trans ((below_regrown w1 da oa).mono HB1.out.size))
          clear KQ d0 d1 d2 d3 d4 d5 d6 d7 d8 d9
          have HBl3 := Lib.hid (HBl.out.below (below_regrown w1 da oa) HBl.out.lt)
          obtain ⟨w3, hw3⟩ : ∃ w3, grow (redrawn w1 da) oa = w3 := ⟨_, rfl⟩
          have HB3 := HB2
          rw [hw3] at HB3 HBl3 ⊢
          clear hw3 HB2
          have e0 := HBl3.out.cell 0
          have e1 := HBl3.out.cell 1
          have e2 := HBl3.out.cell 2
          have e3 := HBl3.out.cell 3
          have e4 := HBl3.out.cell 4
          have e5 := HBl3.out.cell 5
          have e6 := HBl3.out.cell 6
          have e7 := HBl3.out.cell 7
          have e8 := HBl3.out.cell 8
          have e9 := HBl3.out.cell 9
          simp only [List.getElem?_toArray, List.getElem?_cons_zero, List.getElem?_cons_succ] at e0 e1 e2 e3 e4 e5 e6 e7 e8 e9
          go_wp2_with fail
          clear e0 e1 e2 e3 e4 e5 e6 e7 e8 e9
          obtain ⟨d0, d1, d2, d3, d4, d5, d6, d7, d8, d9⟩ := blk_cells10 HBl3.out
          have KB := fun d os => Calls.regrown_of (HK.out (grow (redrawn w3 d) os))
          have KP := fun d os => Calls.regrown_of (HP.out (grow (redrawn w3 d) os))
          have KF := fun d os => Calls.regrown_of (rfew_any (c := x.c1) (HH.out.below (HB3.out.trans ((below_regrown w3 d os).mono HB3.out.size)) (Nat.le_refl _)) HL.out n)
          rw [HFW.out] at KF
          have KR := fun d os => Calls.regrown_of (HR.out (grow (redrawn w3 d) os))
          refine wp_region_quiet_below (by kernel_rfl) (by kernel_rfl) ?_
          refine wq_out ?_
          refine wq_do (by kernel_rfl) (fun K hK => ?_)
          go_simp
          refine hK _ ?_
          clear hK K
          refine wq_do (by kernel_rfl) (fun K hK => ?_)
          go_simp
          apply Exists.intro
          refine ⟨fun a => ?_, hK _ ?_⟩
          · exact KB a.d a.os
          clear hK K
          iterate 8 (refine wq_do (by kernel_rfl) (fun K hK => ?_); go_simp; refine hK _ ?_; clear hK K)
          refine wq_do (by kernel_rfl) (fun K hK => ?_)
          go_simp
          apply Exists.intro
          refine ⟨fun a => ?_, hK _ ?_⟩
          · exact KP a.d a.os
          clear hK K
          iterate 5 (refine wq_do (by kernel_rfl) (fun K hK => ?_); go_simp; refine hK _ ?_; clear hK K)
          refine wq_do (by kernel_rfl) (fun K hK => ?_)
          go_simp
          apply Exists.intro
          refine ⟨fun a => ?_, hK _ ?_⟩
          · exact KF a.d a.os
          clear hK K
          iterate 15 (refine wq_do (by kernel_rfl) (fun K hK => ?_); go_simp; refine hK _ ?_; clear hK K)
          refine wq_do (by kernel_rfl) (fun K hK => ?_)
          go_simp
          apply Exists.intro
          refine ⟨fun a => ?_, hK _ ?_⟩
          · exact KR a.d a.os
          clear hK K
          iterate 3 (refine wq_do (by kernel_rfl) (fun K hK => ?_); go_simp; refine hK _ ?_; clear hK K)
          refine wq_nil ?_
          intro _ hw'
          obtain ⟨⟨db, ob⟩, hw''⟩ := hw'
          subst hw''
          have HB5 := Lib.hid (HB3.out.trans ((below_regrown w3 db ob).mono HB3.out.size))
          clear d0 d1 d2 d3 d4 d5 d6 d7 d8 d9 KB KP KF KR
          go_wp2_with fail
          go_ret
          exact ⟨by simp, HB5.out⟩
end Go.Proofs.YtbegjadohamkkaaGreat
