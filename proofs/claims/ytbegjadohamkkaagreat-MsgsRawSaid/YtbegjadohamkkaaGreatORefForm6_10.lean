/- The contract of the document's Form at kind 10. -/
import Derived.Test.YtbegjadohamkkaaGreatOS9
import Derived.Test.YtbegjadohamkkaaGreatOS5
namespace Go.Proofs.YtbegjadohamkkaaGreat
open Go.RowKit Go.Sort

set_option maxHeartbeats 8000000 in
set_option maxRecDepth 100000 in
theorem rform10 (x : Ms) (hk : x.m.kd = 10) {w : World} (h : x.In w w.heap.size) (hs : x.m.Short) (f n : Int) (hf : 1 ≤ f ∧ f ≤ 4) (hfr : 0 ≤ x.m.fr ∧ x.m.fr < 3 * f + 1) :
    Calls Tryz.prog 28 #[.agg #[.int .i64 x.m.kd, .int .i64 x.m.fr, .int .i64 x.m.vw, .int .i64 x.m.ins, .int .i64 x.m.sq, .int .i64 x.m.rs, .slice x.A1 x.m.bt.length x.c1, .slice x.A2 x.m.vs.length x.c2, .slice x.A3 x.m.cs.length x.c3, .slice x.A4 x.m.ps.length x.c4], .int .i64 f, .int .i64 n] w fun e w' => e = .returned (.bool (blankS false true true true false false false false x.m && decide (0 ≤ x.m.ins ∧ x.m.ins < n ∧ 1 ≤ x.m.sq ∧ x.m.sq ≤ 1048576 ∧ -549755813888 < x.m.rs ∧ x.m.rs < 549755813888))) ∧ Below w.heap.size w w' := by
  rw [hk]
  have HB := Lib.hid (show Below w.heap.size w (w.alloc (.cells #[.int .i64 10, .int .i64 x.m.fr, .int .i64 x.m.vw, .int .i64 x.m.ins, .int .i64 x.m.sq, .int .i64 x.m.rs, .slice x.A1 x.m.bt.length x.c1, .slice x.A2 x.m.vs.length x.c2, .slice x.A3 x.m.cs.length x.c3, .slice x.A4 x.m.ps.length x.c4] 38)) from (Below.refl _ w).alloc (Nat.le_refl _) _)
  have HBl := Lib.hid (show Blk (w.alloc (.cells #[.int .i64 10, .int .i64 x.m.fr, .int .i64 x.m.vw, .int .i64 x.m.ins, .int .i64 x.m.sq, .int .i64 x.m.rs, .slice x.A1 x.m.bt.length x.c1, .slice x.A2 x.m.vs.length x.c2, .slice x.A3 x.m.cs.length x.c3, .slice x.A4 x.m.ps.length x.c4] 38)) w.heap.size 38 #[.int .i64 10, .int .i64 x.m.fr, .int .i64 x.m.vw, .int .i64 x.m.ins, .int .i64 x.m.sq, .int .i64 x.m.rs, .slice x.A1 x.m.bt.length x.c1, .slice x.A2 x.m.vs.length x.c2, .slice x.A3 x.m.cs.length x.c3, .slice x.A4 x.m.ps.length x.c4] from Blk.new _ _ _)
  have KN := Lib.hid (fun w => (rnodes_any f w).mono (R' := fun e w' => e = .returned (.int .i64 (3 * f + 1)) ∧ w' = w) (fun e w' he => ⟨by rw [he.1, nodesS_in hf.1 hf.2], he.2.symm⟩))
  have KNB := Lib.hid (fun w => (KN.out w).mono (R' := fun e w' => e = .returned (.int .i64 (3 * f + 1)) ∧ Below w.heap.size w w') (fun e w' he => ⟨he.1, by rw [he.2]; exact Below.refl _ _⟩))
  have tn : ((3 * f + 1 : Int) == 0) = false := by rw [beq_eq_false_iff_ne]; omega
  have u1 : decide (x.m.fr < 0) = false := decide_eq_false (by omega)
  have u2 : decide (3 * f + 1 ≤ x.m.fr) = false := decide_eq_false (by omega)
  have _ := hs
  have _ := h
  have HK := Lib.hid (fun w => rblank_isr x w)
  rw [hk] at HK
  cases hb : blankS false true true true false false false false x.m
  · rw [hb] at HK
    clear hb h hs hk hf hfr 
    go_enter Tryz.func28, Tryz.ntmps28
    go_wp2_with fail
    refine (KN.out _).mono ?_
    rintro e w' ⟨rfl, rfl⟩
    go_wp2_with fail
    obtain ⟨w1, hw1⟩ : ∃ w1, w.alloc (.cells #[.int .i64 10, .int .i64 x.m.fr, .int .i64 x.m.vw, .int .i64 x.m.ins, .int .i64 x.m.sq, .int .i64 x.m.rs, .slice x.A1 x.m.bt.length x.c1, .slice x.A2 x.m.vs.length x.c2, .slice x.A3 x.m.cs.length x.c3, .slice x.A4 x.m.ps.length x.c4] 38) = w1 := ⟨_, rfl⟩
    obtain ⟨g1, hg1⟩ : ∃ g1, w.heap.size = g1 := ⟨_, rfl⟩
    have HG1 := Lib.hid hg1
    have HB1 := HB
    rw [hw1] at HB1 HBl ⊢
    rw [hg1] at HBl ⊢
    clear hw1 hg1
    obtain ⟨d0, d1, d2, d3, d4, d5, d6, d7, d8, d9⟩ := blk_cells10 HBl.out
    have KQ := fun d os => Calls.regrown_of (KNB.out (grow (redrawn w1 d) os))
    refine wp_region_quiet_below (by kernel_rfl) (by kernel_rfl) ?_
    refine wq_out ?_
    iterate 7 (refine wq_do (by kernel_rfl) (fun K hK => ?_); go_simp; refine hK _ ?_; clear hK K)
    refine wq_do (by kernel_rfl) (fun K hK => ?_)
    go_simp
    apply Exists.intro
    refine ⟨fun a => ?_, hK _ ?_⟩
    · exact KQ a.d a.os
    clear hK K
    iterate 2 (refine wq_do (by kernel_rfl) (fun K hK => ?_); go_simp; refine hK _ ?_; clear hK K)
    refine wq_nil ?_
    intro _ hw'
    obtain ⟨⟨da, oa⟩, hw''⟩ := hw'
    subst hw''
    have HB2 := Lib.hid (HB1.out.trans ((below_regrown w1 da oa).mono HB1.out.size))
    clear KQ d0 d1 d2 d3 d4 d5 d6 d7 d8 d9
    have HBl3 := Lib.hid (HBl.out.below (below_regrown w1 da oa) HBl.out.lt)
    obtain ⟨w3, hw3⟩ : ∃ w3, grow (redrawn w1 da) oa = w3 := ⟨_, rfl⟩
    have HB3 := HB2
    rw [hw3] at HB3 HBl3 ⊢
    clear hw3 HB2
    have e0 := HBl3.out.cell 0
    have e1 := HBl3.out.cell 1
    have e2 := HBl3.out.cell 2
    have e3 := HBl3.out.cell 3
    have e4 := HBl3.out.cell 4
    have e5 := HBl3.out.cell 5
    have e6 := HBl3.out.cell 6
    have e7 := HBl3.out.cell 7
    have e8 := HBl3.out.cell 8
    have e9 := HBl3.out.cell 9
    simp only [List.getElem?_toArray, List.getElem?_cons_zero, List.getElem?_cons_succ] at e0 e1 e2 e3 e4 e5 e6 e7 e8 e9
    go_wp2_with fail
    refine (HK.out _).mono ?_
    rintro e w4 ⟨rfl, hb4⟩
    have HB4 := Lib.hid (HB3.out.trans (hb4.mono HB3.out.size))
    have HBl4 := Lib.hid (HBl3.out.below hb4 HBl3.out.lt)
    clear hb4 HBl3 e0 e1 e2 e3 e4 e5 e6 e7 e8 e9
    have e0 := HBl4.out.cell 0
    have e1 := HBl4.out.cell 1
    have e2 := HBl4.out.cell 2
    have e3 := HBl4.out.cell 3
    have e4 := HBl4.out.cell 4
    have e5 := HBl4.out.cell 5
    have e6 := HBl4.out.cell 6
    have e7 := HBl4.out.cell 7
    have e8 := HBl4.out.cell 8
    have e9 := HBl4.out.cell 9
    simp only [List.getElem?_toArray, List.getElem?_cons_zero, List.getElem?_cons_succ] at e0 e1 e2 e3 e4 e5 e6 e7 e8 e9
    go_wp2_with fail
    go_ret
    exact ⟨rfl, HB4.out⟩
  · rw [hb] at HK
    clear hb
    by_cases h0 : 0 ≤ x.m.ins
    · have t0 : decide ((0 : Int) ≤ x.m.ins) = true := decide_eq_true h0
      by_cases h1 : x.m.ins < n
      · have t1 : decide (x.m.ins < n) = true := decide_eq_true h1
        by_cases h2 : 1 ≤ x.m.sq
        · have t2 : decide ((1 : Int) ≤ x.m.sq) = true := decide_eq_true h2
          by_cases h3 : x.m.sq ≤ 1048576
          · have t3 : decide (x.m.sq ≤ 1048576) = true := decide_eq_true h3
            by_cases h4 : -549755813888 < x.m.rs
            · have t4 : decide (-549755813888 < x.m.rs) = true := decide_eq_true h4
              rw [show decide (0 ≤ x.m.ins ∧ x.m.ins < n ∧ 1 ≤ x.m.sq ∧ x.m.sq ≤ 1048576 ∧ -549755813888 < x.m.rs ∧ x.m.rs < 549755813888) = decide (x.m.rs < 549755813888) from decide_eq_decide.mpr (by omega)]
              clear h hs hk hf hfr h0 h1 h2 h3 h4
              go_enter Tryz.func28, Tryz.ntmps28
              go_wp2_with fail
              refine (KN.out _).mono ?_
              rintro e w' ⟨rfl, rfl⟩
              go_wp2_with fail
              obtain ⟨w1, hw1⟩ : ∃ w1, w.alloc (.cells #[.int .i64 10, .int .i64 x.m.fr, .int .i64 x.m.vw, .int .i64 x.m.ins, .int .i64 x.m.sq, .int .i64 x.m.rs, .slice x.A1 x.m.bt.length x.c1, .slice x.A2 x.m.vs.length x.c2, .slice x.A3 x.m.cs.length x.c3, .slice x.A4 x.m.ps.length x.c4] 38) = w1 := ⟨_, rfl⟩
              obtain ⟨g1, hg1⟩ : ∃ g1, w.heap.size = g1 := ⟨_, rfl⟩
              have HG1 := Lib.hid hg1
              have HB1 := HB
              rw [hw1] at HB1 HBl ⊢
              rw [hg1] at HBl ⊢
              clear hw1 hg1
              obtain ⟨d0, d1, d2, d3, d4, d5, d6, d7, d8, d9⟩ := blk_cells10 HBl.out
              have KQ := fun d os => Calls.regrown_of (KNB.out (grow (redrawn w1 d) os))
              refine wp_region_quiet_below (by kernel_rfl) (by kernel_rfl) ?_
              refine wq_out ?_
              iterate 7 (refine wq_do (by kernel_rfl) (fun K hK => ?_); go_simp; refine hK _ ?_; clear hK K)
              refine wq_do (by kernel_rfl) (fun K hK => ?_)
              go_simp
              apply Exists.intro
              refine ⟨fun a => ?_, hK _ ?_⟩
              · exact KQ a.d a.os
              clear hK K
              iterate 2 (refine wq_do (by kernel_rfl) (fun K hK => ?_); go_simp; refine hK _ ?_; clear hK K)
              refine wq_nil ?_
              intro _ hw'
              obtain ⟨⟨da, oa⟩, hw''⟩ := hw'
              subst hw''
              have HB2 := Lib.hid (HB1.out.trans ((below_regrown w1 da oa).mono HB1.out.size))
              clear KQ d0 d1 d2 d3 d4 d5 d6 d7 d8 d9
              have HBl3 := Lib.hid (HBl.out.below (below_regrown w1 da oa) HBl.out.lt)
              obtain ⟨w3, hw3⟩ : ∃ w3, grow (redrawn w1 da) oa = w3 := ⟨_, rfl⟩
              have HB3 := HB2
              rw [hw3] at HB3 HBl3 ⊢
              clear hw3 HB2
              have e0 := HBl3.out.cell 0
              have e1 := HBl3.out.cell 1
              have e2 := HBl3.out.cell 2
              have e3 := HBl3.out.cell 3
              have e4 := HBl3.out.cell 4
              have e5 := HBl3.out.cell 5
              have e6 := HBl3.out.cell 6
              have e7 := HBl3.out.cell 7
              have e8 := HBl3.out.cell 8
              have e9 := HBl3.out.cell 9
              simp only [List.getElem?_toArray, List.getElem?_cons_zero, List.getElem?_cons_succ] at e0 e1 e2 e3 e4 e5 e6 e7 e8 e9
              go_wp2_with fail
              refine (HK.out _).mono ?_
              rintro e w4 ⟨rfl, hb4⟩
              have HB4 := Lib.hid (HB3.out.trans (hb4.mono HB3.out.size))
              have HBl4 := Lib.hid (HBl3.out.below hb4 HBl3.out.lt)
              clear hb4 HBl3 e0 e1 e2 e3 e4 e5 e6 e7 e8 e9
              have e0 := HBl4.out.cell 0
              have e1 := HBl4.out.cell 1
              have e2 := HBl4.out.cell 2
              have e3 := HBl4.out.cell 3
              have e4 := HBl4.out.cell 4
              have e5 := HBl4.out.cell 5
              have e6 := HBl4.out.cell 6
              have e7 := HBl4.out.cell 7
              have e8 := HBl4.out.cell 8
              have e9 := HBl4.out.cell 9
              simp only [List.getElem?_toArray, List.getElem?_cons_zero, List.getElem?_cons_succ] at e0 e1 e2 e3 e4 e5 e6 e7 e8 e9
              go_wp2_with fail
              go_ret
              exact ⟨by simp, HB4.out⟩
            · have t4 : decide (-549755813888 < x.m.rs) = false := decide_eq_false h4
              rw [show decide (0 ≤ x.m.ins ∧ x.m.ins < n ∧ 1 ≤ x.m.sq ∧ x.m.sq ≤ 1048576 ∧ -549755813888 < x.m.rs ∧ x.m.rs < 549755813888) = false from decide_eq_false (by omega)]
              clear h hs hk hf hfr h0 h1 h2 h3 h4
              go_enter Tryz.func28, Tryz.ntmps28
              go_wp2_with fail
              refine (KN.out _).mono ?_
              rintro e w' ⟨rfl, rfl⟩
              go_wp2_with fail
              obtain ⟨w1, hw1⟩ : ∃ w1, w.alloc (.cells #[.int .i64 10, .int .i64 x.m.fr, .int .i64 x.m.vw, .int .i64 x.m.ins, .int .i64 x.m.sq, .int .i64 x.m.rs, .slice x.A1 x.m.bt.length x.c1, .slice x.A2 x.m.vs.length x.c2, .slice x.A3 x.m.cs.length x.c3, .slice x.A4 x.m.ps.length x.c4] 38) = w1 := ⟨_, rfl⟩
              obtain ⟨g1, hg1⟩ : ∃ g1, w.heap.size = g1 := ⟨_, rfl⟩
              have HG1 := Lib.hid hg1
              have HB1 := HB
              rw [hw1] at HB1 HBl ⊢
              rw [hg1] at HBl ⊢
              clear hw1 hg1
              obtain ⟨d0, d1, d2, d3, d4, d5, d6, d7, d8, d9⟩ := blk_cells10 HBl.out
              have KQ := fun d os => Calls.regrown_of (KNB.out (grow (redrawn w1 d) os))
              refine wp_region_quiet_below (by kernel_rfl) (by kernel_rfl) ?_
              refine wq_out ?_
              iterate 7 (refine wq_do (by kernel_rfl) (fun K hK => ?_); go_simp; refine hK _ ?_; clear hK K)
              refine wq_do (by kernel_rfl) (fun K hK => ?_)
              go_simp
              apply Exists.intro
              refine ⟨fun a => ?_, hK _ ?_⟩
              · exact KQ a.d a.os
              clear hK K
              iterate 2 (refine wq_do (by kernel_rfl) (fun K hK => ?_); go_simp; refine hK _ ?_; clear hK K)
              refine wq_nil ?_
              intro _ hw'
              obtain ⟨⟨da, oa⟩, hw''⟩ := hw'
              subst hw''
              have HB2 := Lib.hid (HB1.out.trans ((below_regrown w1 da oa).mono HB1.out.size))
              clear KQ d0 d1 d2 d3 d4 d5 d6 d7 d8 d9
              have HBl3 := Lib.hid (HBl.out.below (below_regrown w1 da oa) HBl.out.lt)
              obtain ⟨w3, hw3⟩ : ∃ w3, grow (redrawn w1 da) oa = w3 := ⟨_, rfl⟩
              have HB3 := HB2
              rw [hw3] at HB3 HBl3 ⊢
              clear hw3 HB2
              have e0 := HBl3.out.cell 0
              have e1 := HBl3.out.cell 1
              have e2 := HBl3.out.cell 2
              have e3 := HBl3.out.cell 3
              have e4 := HBl3.out.cell 4
              have e5 := HBl3.out.cell 5
              have e6 := HBl3.out.cell 6
              have e7 := HBl3.out.cell 7
              have e8 := HBl3.out.cell 8
              have e9 := HBl3.out.cell 9
              simp only [List.getElem?_toArray, List.getElem?_cons_zero, List.getElem?_cons_succ] at e0 e1 e2 e3 e4 e5 e6 e7 e8 e9
              go_wp2_with fail
              refine (HK.out _).mono ?_
              rintro e w4 ⟨rfl, hb4⟩
              have HB4 := Lib.hid (HB3.out.trans (hb4.mono HB3.out.size))
              have HBl4 := Lib.hid (HBl3.out.below hb4 HBl3.out.lt)
              clear hb4 HBl3 e0 e1 e2 e3 e4 e5 e6 e7 e8 e9
              have e0 := HBl4.out.cell 0
              have e1 := HBl4.out.cell 1
              have e2 := HBl4.out.cell 2
              have e3 := HBl4.out.cell 3
              have e4 := HBl4.out.cell 4
              have e5 := HBl4.out.cell 5
              have e6 := HBl4.out.cell 6
              have e7 := HBl4.out.cell 7
              have e8 := HBl4.out.cell 8
              have e9 := HBl4.out.cell 9
              simp only [List.getElem?_toArray, List.getElem?_cons_zero, List.getElem?_cons_succ] at e0 e1 e2 e3 e4 e5 e6 e7 e8 e9
              go_wp2_with fail
              go_ret
              exact ⟨rfl, HB4.out⟩
          · have t3 : decide (x.m.sq ≤ 1048576) = false := decide_eq_false h3
            rw [show decide (0 ≤ x.m.ins ∧ x.m.ins < n ∧ 1 ≤ x.m.sq ∧ x.m.sq ≤ 1048576 ∧ -549755813888 < x.m.rs ∧ x.m.rs < 549755813888) = false from decide_eq_false (by omega)]
            clear h hs hk hf hfr h0 h1 h2 h3
            go_enter Tryz.func28, Tryz.ntmps28
            go_wp2_with fail
            refine (KN.out _).mono ?_
            rintro e w' ⟨rfl, rfl⟩
            go_wp2_with fail
            obtain ⟨w1, hw1⟩ : ∃ w1, w.alloc (.cells #[.int .i64 10, .int .i64 x.m.fr, .int .i64 x.m.vw, .int .i64 x.m.ins, .int .i64 x.m.sq, .int .i64 x.m.rs, .slice x.A1 x.m.bt.length x.c1, .slice x.A2 x.m.vs.length x.c2, .slice x.A3 x.m.cs.length x.c3, .slice x.A4 x.m.ps.length x.c4] 38) = w1 := ⟨_, rfl⟩
            obtain ⟨g1, hg1⟩ : ∃ g1, w.heap.size = g1 := ⟨_, rfl⟩
            have HG1 := Lib.hid hg1
            have HB1 := HB
            rw [hw1] at HB1 HBl ⊢
            rw [hg1] at HBl ⊢
            clear hw1 hg1
            obtain ⟨d0, d1, d2, d3, d4, d5, d6, d7, d8, d9⟩ := blk_cells10 HBl.out
            have KQ := fun d os => Calls.regrown_of (KNB.out (grow (redrawn w1 d) os))
            refine wp_region_quiet_below (by kernel_rfl) (by kernel_rfl) ?_
            refine wq_out ?_
            iterate 7 (refine wq_do (by kernel_rfl) (fun K hK => ?_); go_simp; refine hK _ ?_; clear hK K)
            refine wq_do (by kernel_rfl) (fun K hK => ?_)
            go_simp
            apply Exists.intro
            refine ⟨fun a => ?_, hK _ ?_⟩
            · exact KQ a.d a.os
            clear hK K
            iterate 2 (refine wq_do (by kernel_rfl) (fun K hK => ?_); go_simp; refine hK _ ?_; clear hK K)
            refine wq_nil ?_
            intro _ hw'
            obtain ⟨⟨da, oa⟩, hw''⟩ := hw'
            subst hw''
            have HB2 := Lib.hid (HB1.out.trans ((below_regrown w1 da oa).mono HB1.out.size))
            clear KQ d0 d1 d2 d3 d4 d5 d6 d7 d8 d9
            have HBl3 := Lib.hid (HBl.out.below (below_regrown w1 da oa) HBl.out.lt)
            obtain ⟨w3, hw3⟩ : ∃ w3, grow (redrawn w1 da) oa = w3 := ⟨_, rfl⟩
            have HB3 := HB2
            rw [hw3] at HB3 HBl3 ⊢
            clear hw3 HB2
            have e0 := HBl3.out.cell 0
            have e1 := HBl3.out.cell 1
            have e2 := HBl3.out.cell 2
            have e3 := HBl3.out.cell 3
            have e4 := HBl3.out.cell 4
            have e5 := HBl3.out.cell 5
            have e6 := HBl3.out.cell 6
            have e7 := HBl3.out.cell 7
            have e8 := HBl3.out.cell 8
            have e9 := HBl3.out.cell 9
            simp only [List.getElem?_toArray, List.getElem?_cons_zero, List.getElem?_cons_succ] at e0 e1 e2 e3 e4 e5 e6 e7 e8 e9
            go_wp2_with fail
            refine (HK.out _).mono ?_
            rintro e w4 ⟨rfl, hb4⟩
            have HB4 := Lib.hid (HB3.out.trans (hb4.mono HB3.out.size))
            have HBl4 := Lib.hid (HBl3.out.below hb4 HBl3.out.lt)
            clear hb4 HBl3 e0 e1 e2 e3 e4 e5 e6 e7 e8 e9
            have e0 := HBl4.out.cell 0
            have e1 := HBl4.out.cell 1
            have e2 := HBl4.out.cell 2
            have e3 := HBl4.out.cell 3
            have e4 := HBl4.out.cell 4
            have e5 := HBl4.out.cell 5
            have e6 := HBl4.out.cell 6
            have e7 := HBl4.out.cell 7
            have e8 := HBl4.out.cell 8
            have e9 := HBl4.out.cell 9
            simp only [List.getElem?_toArray, List.getElem?_cons_zero, List.getElem?_cons_succ] at e0 e1 e2 e3 e4 e5 e6 e7 e8 e9
            go_wp2_with fail
            go_ret
            exact ⟨rfl, HB4.out⟩
        · have t2 : decide ((1 : Int) ≤ x.m.sq) = false := decide_eq_false h2
          rw [show decide (0 ≤ x.m.ins ∧ x.m.ins < n ∧ 1 ≤ x.m.sq ∧ x.m.sq ≤ 1048576 ∧ -549755813888 < x.m.rs ∧ x.m.rs < 549755813888) = false from decide_eq_false (by omega)]
          clear h hs hk hf hfr h0 h1 h2
          go_enter Tryz.func28, Tryz.ntmps28
          go_wp2_with fail
          refine (KN.out _).mono ?_
          rintro e w' ⟨rfl, rfl⟩
          go_wp2_with fail
          obtain ⟨w1, hw1⟩ : ∃ w1, w.alloc (.cells #[.int .i64 10, .int .i64 x.m.fr, .int .i64 x.m.vw, .int .i64 x.m.ins, .int .i64 x.m.sq, .int .i64 x.m.rs, .slice x.A1 x.m.bt.length x.c1, .slice x.A2 x.m.vs.length x.c2, .slice x.A3 x.m.cs.length x.c3, .slice x.A4 x.m.ps.length x.c4] 38) = w1 := ⟨_, rfl⟩
          obtain ⟨g1, hg1⟩ : ∃ g1, w.heap.size = g1 := ⟨_, rfl⟩
          have HG1 := Lib.hid hg1
          have HB1 := HB
          rw [hw1] at HB1 HBl ⊢
          rw [hg1] at HBl ⊢
          clear hw1 hg1
          obtain ⟨d0, d1, d2, d3, d4, d5, d6, d7, d8, d9⟩ := blk_cells10 HBl.out
          have KQ := fun d os => Calls.regrown_of (KNB.out (grow (redrawn w1 d) os))
          refine wp_region_quiet_below (by kernel_rfl) (by kernel_rfl) ?_
          refine wq_out ?_
          iterate 7 (refine wq_do (by kernel_rfl) (fun K hK => ?_); go_simp; refine hK _ ?_; clear hK K)
          refine wq_do (by kernel_rfl) (fun K hK => ?_)
          go_simp
          apply Exists.intro
          refine ⟨fun a => ?_, hK _ ?_⟩
          · exact KQ a.d a.os
          clear hK K
          iterate 2 (refine wq_do (by kernel_rfl) (fun K hK => ?_); go_simp; refine hK _ ?_; clear hK K)
          refine wq_nil ?_
          intro _ hw'
          obtain ⟨⟨da, oa⟩, hw''⟩ := hw'
          subst hw''
          have HB2 := Lib.hid (HB1.out.trans ((below_regrown w1 da oa).mono HB1.out.size))
          clear KQ d0 d1 d2 d3 d4 d5 d6 d7 d8 d9
          have HBl3 := Lib.hid (HBl.out.below (below_regrown w1 da oa) HBl.out.lt)
          obtain ⟨w3, hw3⟩ : ∃ w3, grow (redrawn w1 da) oa = w3 := ⟨_, rfl⟩
          have HB3 := HB2
          rw [hw3] at HB3 HBl3 ⊢
          clear hw3 HB2
          have e0 := HBl3.out.cell 0
          have e1 := HBl3.out.cell 1
          have e2 := HBl3.out.cell 2
          have e3 := HBl3.out.cell 3
          have e4 := HBl3.out.cell 4
          have e5 := HBl3.out.cell 5
          have e6 := HBl3.out.cell 6
          have e7 := HBl3.out.cell 7
          have e8 := HBl3.out.cell 8
          have e9 := HBl3.out.cell 9
          simp only [List.getElem?_toArray, List.getElem?_cons_zero, List.getElem?_cons_succ] at e0 e1 e2 e3 e4 e5 e6 e7 e8 e9
          go_wp2_with fail
          refine (HK.out _).mono ?_
          rintro e w4 ⟨rfl, hb4⟩
          have HB4 := Lib.hid (HB3.out.trans (hb4.mono HB3.out.size))
          have HBl4 := Lib.hid (HBl3.out.below hb4 HBl3.out.lt)
          clear hb4 HBl3 e0 e1 e2 e3 e4 e5 e6 e7 e8 e9
          have e0 := HBl4.out.cell 0
          have e1 := HBl4.out.cell 1
          have e2 := HBl4.out.cell 2
          have e3 := HBl4.out.cell 3
          have e4 := HBl4.out.cell 4
          have e5 := HBl4.out.cell 5
          have e6 := HBl4.out.cell 6
          have e7 := HBl4.out.cell 7
          have e8 := HBl4.out.cell 8
          have e9 := HBl4.out.cell 9
          simp only [List.getElem?_toArray, List.getElem?_cons_zero, List.getElem?_cons_succ] at e0 e1 e2 e3 e4 e5 e6 e7 e8 e9
          go_wp2_with fail
          go_ret
          exact ⟨rfl, HB4.out⟩
      · have t1 : decide (x.m.ins < n) = false := decide_eq_false h1
        rw [show decide (0 ≤ x.m.ins ∧ x.m.ins < n ∧ 1 ≤ x.m.sq ∧ x.m.sq ≤ 1048576 ∧ -549755813888 < x.m.rs ∧ x.m.rs < 549755813888) = false from decide_eq_false (by omega)]
        clear h hs hk hf hfr h0 h1
        go_enter Tryz.func28, Tryz.ntmps28
        go_wp2_with fail
        refine (KN.out _).mono ?_
        rintro e w' ⟨rfl, rfl⟩
        go_wp2_with fail
        obtain ⟨w1, hw1⟩ : ∃ w1, w.alloc (.cells #[.int .i64 10, .int .i64 x.m.fr, .int .i64 x.m.vw, .int .i64 x.m.ins, .int .i64 x.m.sq, .int .i64 x.m.rs, .slice x.A1 x.m.bt.length x.c1, .slice x.A2 x.m.vs.length x.c2, .slice x.A3 x.m.cs.length x.c3, .slice x.A4 x.m.ps.length x.c4] 38) = w1 := ⟨_, rfl⟩
        obtain ⟨g1, hg1⟩ : ∃ g1, w.heap.size = g1 := ⟨_, rfl⟩
        have HG1 := Lib.hid hg1
        have HB1 := HB
        rw [hw1] at HB1 HBl ⊢
        rw [hg1] at HBl ⊢
        clear hw1 hg1
        obtain ⟨d0, d1, d2, d3, d4, d5, d6, d7, d8, d9⟩ := blk_cells10 HBl.out
        have KQ := fun d os => Calls.regrown_of (KNB.out (grow (redrawn w1 d) os))
        refine wp_region_quiet_below (by kernel_rfl) (by kernel_rfl) ?_
        refine wq_out ?_
        iterate 7 (refine wq_do (by kernel_rfl) (fun K hK => ?_); go_simp; refine hK _ ?_; clear hK K)
        refine wq_do (by kernel_rfl) (fun K hK => ?_)
        go_simp
        apply Exists.intro
        refine ⟨fun a => ?_, hK _ ?_⟩
        · exact KQ a.d a.os
        clear hK K
        iterate 2 (refine wq_do (by kernel_rfl) (fun K hK => ?_); go_simp; refine hK _ ?_; clear hK K)
        refine wq_nil ?_
        intro _ hw'
        obtain ⟨⟨da, oa⟩, hw''⟩ := hw'
        subst hw''
        have HB2 := Lib.hid (HB1.out.trans ((below_regrown w1 da oa).mono HB1.out.size))
        clear KQ d0 d1 d2 d3 d4 d5 d6 d7 d8 d9
        have HBl3 := Lib.hid (HBl.out.below (below_regrown w1 da oa) HBl.out.lt)
        obtain ⟨w3, hw3⟩ : ∃ w3, grow (redrawn w1 da) oa = w3 := ⟨_, rfl⟩
        have HB3 := HB2
        rw [hw3] at HB3 HBl3 ⊢
        clear hw3 HB2
        have e0 := HBl3.out.cell 0
        have e1 := HBl3.out.cell 1
        have e2 := HBl3.out.cell 2
        have e3 := HBl3.out.cell 3
        have e4 := HBl3.out.cell 4
        have e5 := HBl3.out.cell 5
        have e6 := HBl3.out.cell 6
        have e7 := HBl3.out.cell 7
        have e8 := HBl3.out.cell 8
        have e9 := HBl3.out.cell 9
        simp only [List.getElem?_toArray, List.getElem?_cons_zero, List.getElem?_cons_succ] at e0 e1 e2 e3 e4 e5 e6 e7 e8 e9
        go_wp2_with fail
        refine (HK.out _).mono ?_
        rintro e w4 ⟨rfl, hb4⟩
        have HB4 := Lib.hid (HB3.out.trans (hb4.mono HB3.out.size))
        have HBl4 := Lib.hid (HBl3.out.below hb4 HBl3.out.lt)
        clear hb4 HBl3 e0 e1 e2 e3 e4 e5 e6 e7 e8 e9
        have e0 := HBl4.out.cell 0
        have e1 := HBl4.out.cell 1
        have e2 := HBl4.out.cell 2
        have e3 := HBl4.out.cell 3
        have e4 := HBl4.out.cell 4
        have e5 := HBl4.out.cell 5
        have e6 := HBl4.out.cell 6
        have e7 := HBl4.out.cell 7
        have e8 := HBl4.out.cell 8
        have e9 := HBl4.out.cell 9
        simp only [List.getElem?_toArray, List.getElem?_cons_zero, List.getElem?_cons_succ] at e0 e1 e2 e3 e4 e5 e6 e7 e8 e9
        go_wp2_with fail
        go_ret
        exact ⟨rfl, HB4.out⟩
    · have t0 : decide ((0 : Int) ≤ x.m.ins) = false := decide_eq_false h0
      rw [show decide (0 ≤ x.m.ins ∧ x.m.ins < n ∧ 1 ≤ x.m.sq ∧ x.m.sq ≤ 1048576 ∧ -549755813888 < x.m.rs ∧ x.m.rs < 549755813888) = false from decide_eq_false (by omega)]
      clear h hs hk hf hfr h0
      go_enter Tryz.func28, Tryz.ntmps28
      go_wp2_with fail
      refine (KN.out _).mono ?_
      rintro e w' ⟨rfl, rfl⟩
      go_wp2_with fail
      obtain ⟨w1, hw1⟩ : ∃ w1, w.alloc (.cells #[.int .i64 10, .int .i64 x.m.fr, .int .i64 x.m.vw, .int .i64 x.m.ins, .int .i64 x.m.sq, .int .i64 x.m.rs, .slice x.A1 x.m.bt.length x.c1, .slice x.A2 x.m.vs.length x.c2, .slice x.A3 x.m.cs.length x.c3, .slice x.A4 x.m.ps.length x.c4] 38) = w1 := ⟨_, rfl⟩
      obtain ⟨g1, hg1⟩ : ∃ g1, w.heap.size = g1 := ⟨_, rfl⟩
      have HG1 := Lib.hid hg1
      have HB1 := HB
      rw [hw1] at HB1 HBl ⊢
      rw [hg1] at HBl ⊢
      clear hw1 hg1
      obtain ⟨d0, d1, d2, d3, d4, d5, d6, d7, d8, d9⟩ := blk_cells10 HBl.out
      have KQ := fun d os => Calls.regrown_of (KNB.out (grow (redrawn w1 d) os))
      refine wp_region_quiet_below (by kernel_rfl) (by kernel_rfl) ?_
      refine wq_out ?_
      iterate 7 (refine wq_do (by kernel_rfl) (fun K hK => ?_); go_simp; refine hK _ ?_; clear hK K)
      refine wq_do (by kernel_rfl) (fun K hK => ?_)
      go_simp
      apply Exists.intro
      refine ⟨fun a => ?_, hK _ ?_⟩
      · exact KQ a.d a.os
      clear hK K
      iterate 2 (refine wq_do (by kernel_rfl) (fun K hK => ?_); go_simp; refine hK _ ?_; clear hK K)
      refine wq_nil ?_
      intro _ hw'
      obtain ⟨⟨da, oa⟩, hw''⟩ := hw'
      subst hw''
      have HB2 := Lib.hid (HB1.out.trans ((below_regrown w1 da oa).mono HB1.out.size))
      clear KQ d0 d1 d2 d3 d4 d5 d6 d7 d8 d9
      have HBl3 := Lib.hid (HBl.out.below (below_regrown w1 da oa) HBl.out.lt)
      obtain ⟨w3, hw3⟩ : ∃ w3, grow (redrawn w1 da) oa = w3 := ⟨_, rfl⟩
      have HB3 := HB2
      rw [hw3] at HB3 HBl3 ⊢
      clear hw3 HB2
      have e0 := HBl3.out.cell 0
      have e1 := HBl3.out.cell 1
      have e2 := HBl3.out.cell 2
      have e3 := HBl3.out.cell 3
      have e4 := HBl3.out.cell 4
      have e5 := HBl3.out.cell 5
      have e6 := HBl3.out.cell 6
      have e7 := HBl3.out.cell 7
      have e8 := HBl3.out.cell 8
      have e9 := HBl3.out.cell 9
      simp only [List.getElem?_toArray, List.getElem?_cons_zero, List.getElem?_cons_succ] at e0 e1 e2 e3 e4 e5 e6 e7 e8 e9
      go_wp2_with fail
      refine (HK.out _).mono ?_
      rintro e w4 ⟨rfl, hb4⟩
      have HB4 := Lib.hid (HB3.out.trans (hb4.mono HB3.out.size))
      have HBl4 := Lib.hid (HBl3.out.below hb4 HBl3.out.lt)
      clear hb4 HBl3 e0 e1 e2 e3 e4 e5 e6 e7 e8 e9
      have e0 := HBl4.out.cell 0
      have e1 := HBl4.out.cell 1
      have e2 := HBl4.out.cell 2
      have e3 := HBl4.out.cell 3
      have e4 := HBl4.out.cell 4
      have e5 := HBl4.out.cell 5
      have e6 := HBl4.out.cell 6
      have e7 := HBl4.out.cell 7
      have e8 := HBl4.out.cell 8
      have e9 := HBl4.out.cell 9
      simp only [List.getElem?_toArray, List.getElem?_cons_zero, List.getElem?_cons_succ] at e0 e1 e2 e3 e4 e5 e6 e7 e8 e9
      go_wp2_with fail
      go_ret
      exact ⟨rfl, HB4.out⟩
end Go.Proofs.YtbegjadohamkkaaGreat
