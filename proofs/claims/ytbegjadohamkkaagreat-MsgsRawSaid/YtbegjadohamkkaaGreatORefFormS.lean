/- The contract of the document's Form: at kind 1, at senders and kinds that are none, and all together. -/
import Derived.Test.YtbegjadohamkkaaGreatOS9
import Derived.Test.YtbegjadohamkkaaGreatORefForm6_3
import Derived.Test.YtbegjadohamkkaaGreatORefForm6_8
import Derived.Test.YtbegjadohamkkaaGreatORefForm6_10
namespace Go.Proofs.YtbegjadohamkkaaGreat
open Go.RowKit Go.Sort

def fstS (m : Mg) : Bool := match m.bt with | r :: _ => m.fr == 100 + r.cl | [] => false
set_option maxHeartbeats 8000000 in
set_option maxRecDepth 100000 in
theorem rform1 (x : Ms) (hk : x.m.kd = 1) {w : World} (h : x.In w w.heap.size) (hcl : ∀ r ∈ x.m.bt, r.cl ≤ 9223372036854775707) (f n : Int) (hf : 1 ≤ f ∧ f ≤ 4) :
    Calls Tryz.prog 28 #[.agg #[.int .i64 x.m.kd, .int .i64 x.m.fr, .int .i64 x.m.vw, .int .i64 x.m.ins, .int .i64 x.m.sq, .int .i64 x.m.rs, .slice x.A1 x.m.bt.length x.c1, .slice x.A2 x.m.vs.length x.c2, .slice x.A3 x.m.cs.length x.c3, .slice x.A4 x.m.ps.length x.c4], .int .i64 f, .int .i64 n] w fun e w' => e = .returned (.bool (blankS false false false false true false false false x.m && (oneS x.m.bt n && fstS x.m))) ∧ Below w.heap.size w w' := by
  rw [hk]
  have HB := Lib.hid (show Below w.heap.size w (w.alloc (.cells #[.int .i64 1, .int .i64 x.m.fr, .int .i64 x.m.vw, .int .i64 x.m.ins, .int .i64 x.m.sq, .int .i64 x.m.rs, .slice x.A1 x.m.bt.length x.c1, .slice x.A2 x.m.vs.length x.c2, .slice x.A3 x.m.cs.length x.c3, .slice x.A4 x.m.ps.length x.c4] 38)) from (Below.refl _ w).alloc (Nat.le_refl _) _)
  have HBl := Lib.hid (show Blk (w.alloc (.cells #[.int .i64 1, .int .i64 x.m.fr, .int .i64 x.m.vw, .int .i64 x.m.ins, .int .i64 x.m.sq, .int .i64 x.m.rs, .slice x.A1 x.m.bt.length x.c1, .slice x.A2 x.m.vs.length x.c2, .slice x.A3 x.m.cs.length x.c3, .slice x.A4 x.m.ps.length x.c4] 38)) w.heap.size 38 #[.int .i64 1, .int .i64 x.m.fr, .int .i64 x.m.vw, .int .i64 x.m.ins, .int .i64 x.m.sq, .int .i64 x.m.rs, .slice x.A1 x.m.bt.length x.c1, .slice x.A2 x.m.vs.length x.c2, .slice x.A3 x.m.cs.length x.c3, .slice x.A4 x.m.ps.length x.c4] from Blk.new _ _ _)
  have KN := Lib.hid (fun w => (rnodes_any f w).mono (R' := fun e w' => e = .returned (.int .i64 (3 * f + 1)) ∧ w' = w) (fun e w' he => ⟨by rw [he.1, nodesS_in hf.1 hf.2], he.2.symm⟩))
  have KNB := Lib.hid (fun w => (KN.out w).mono (R' := fun e w' => e = .returned (.int .i64 (3 * f + 1)) ∧ Below w.heap.size w w') (fun e w' he => ⟨he.1, by rw [he.2]; exact Below.refl _ _⟩))
  have tn : ((3 * f + 1 : Int) == 0) = false := by rw [beq_eq_false_iff_ne]; omega
  have HK := Lib.hid (fun w => rblank_b x w)
  rw [hk] at HK
  have hfk := hf
  clear hf
  cases hb : blankS false false false false true false false false x.m
  · rw [hb] at HK
    clear hb h hcl hk hfk
    go_enter Tryz.func28, Tryz.ntmps28
    go_wp2_with fail
    refine (KN.out _).mono ?_
    rintro e w' ⟨rfl, rfl⟩
    go_wp2_with fail
    obtain ⟨w3, hw3⟩ : ∃ w3, w.alloc (.cells #[.int .i64 1, .int .i64 x.m.fr, .int .i64 x.m.vw, .int .i64 x.m.ins, .int .i64 x.m.sq, .int .i64 x.m.rs, .slice x.A1 x.m.bt.length x.c1, .slice x.A2 x.m.vs.length x.c2, .slice x.A3 x.m.cs.length x.c3, .slice x.A4 x.m.ps.length x.c4] 38) = w3 := ⟨_, rfl⟩
    obtain ⟨g1, hg1⟩ : ∃ g1, w.heap.size = g1 := ⟨_, rfl⟩
    have HG1 := Lib.hid hg1
    have HB3 := HB
    have HBl3 := HBl
    rw [hw3] at HB3 HBl3 ⊢
    rw [hg1] at HBl3 ⊢
    clear hw3 hg1 HB HBl KNB
    obtain ⟨d0, d1, d2, d3, d4, d5, d6, d7, d8, d9⟩ := blk_cells10 HBl3.out
    have KB := fun d os => Calls.regrown_of (HK.out (grow (redrawn w3 d) os))
    refine wp_region_quiet_below (by kernel_rfl) (by kernel_rfl) ?_
    refine wq_out ?_
    refine wq_do (by kernel_rfl) (fun K hK => ?_)
    go_simp
    refine hK _ ?_
    clear hK K
    refine wq_do (by kernel_rfl) (fun K hK => ?_)
    go_simp
    apply Exists.intro
    refine ⟨fun a => ?_, hK _ ?_⟩
    · exact KB a.d a.os
    clear hK K
    refine wq_do (by kernel_rfl) (fun K hK => ?_)
    go_simp
    refine hK _ ?_
    clear hK K
    iterate 4 (refine wq_skip (by kernel_rfl) ?_)
    iterate 2 (refine wq_do (by kernel_rfl) (fun K hK => ?_); go_simp; refine hK _ ?_; clear hK K)
    iterate 6 (refine wq_skip (by kernel_rfl) ?_)
    iterate 2 (refine wq_do (by kernel_rfl) (fun K hK => ?_); go_simp; refine hK _ ?_; clear hK K)
    iterate 9 (refine wq_skip (by kernel_rfl) ?_)
    iterate 2 (refine wq_do (by kernel_rfl) (fun K hK => ?_); go_simp; refine hK _ ?_; clear hK K)
    refine wq_nil ?_
    intro _ hw'
    obtain ⟨⟨db, ob⟩, hw''⟩ := hw'
    subst hw''
    have HB5 := Lib.hid (HB3.out.trans ((below_regrown w3 db ob).mono HB3.out.size))
    clear d0 d1 d2 d3 d4 d5 d6 d7 d8 d9 KB
    go_wp2_with fail
    go_ret
    exact ⟨rfl, HB5.out⟩
  · rw [hb] at HK
    clear hb
    by_cases h1 : x.m.bt.length = 1
    · have HH := Lib.hid h.bt
      have HV := Lib.hid (fun r w => rvalid_any r n w)
      have h0 : 0 < x.m.bt.length := by omega
      obtain ⟨r, hr⟩ : ∃ r, x.m.bt[0] = r := ⟨_, rfl⟩
      have hr0 : x.m.bt[0]? = some r := by rw [List.getElem?_eq_getElem h0, hr]
      have HE := Lib.hid (oneS_is (n := n) h1 hr0)
      have HFS := Lib.hid (show fstS x.m = (x.m.fr == 100 + r.cl) by
        unfold fstS
        cases hbt : x.m.bt with
        | nil => rw [hbt] at hr0; cases hr0
        | cons y l => rw [hbt] at hr0; cases hr0; rfl)
      have hcr := hcl r (hr ▸ List.getElem_mem h0)
      have t1 : ((x.m.bt.length : Int) == 1) = true := by rw [h1]; rfl
      have t2 : (0 : Int) < (x.m.bt.length : Int) := by omega
      have HR := Lib.hid hr
      rw [HE.out, HFS.out]
      cases hv : validS r n
      · have HV1 := Lib.hid (HV.out r)
        rw [hv] at HV1
        clear h hcl hk h1 hr hr0 hv HV hcr hfk
        go_enter Tryz.func28, Tryz.ntmps28
        go_wp2_with fail
        refine (KN.out _).mono ?_
        rintro e w' ⟨rfl, rfl⟩
        go_wp2_with fail
        obtain ⟨w3, hw3⟩ : ∃ w3, w.alloc (.cells #[.int .i64 1, .int .i64 x.m.fr, .int .i64 x.m.vw, .int .i64 x.m.ins, .int .i64 x.m.sq, .int .i64 x.m.rs, .slice x.A1 x.m.bt.length x.c1, .slice x.A2 x.m.vs.length x.c2, .slice x.A3 x.m.cs.length x.c3, .slice x.A4 x.m.ps.length x.c4] 38) = w3 := ⟨_, rfl⟩
        obtain ⟨g1, hg1⟩ : ∃ g1, w.heap.size = g1 := ⟨_, rfl⟩
        have HG1 := Lib.hid hg1
        have HB3 := HB
        have HBl3 := HBl
        rw [hw3] at HB3 HBl3 ⊢
        rw [hg1] at HBl3 ⊢
        clear hw3 hg1 HB HBl KNB
        have HV := HV1
        obtain ⟨a1, hA, _, c0, c1, c2, c3, c4, c5⟩ := (HH.out.below HB3.out (Nat.le_refl _)).req h0
        rw [HR.out] at c0 c1 c2 c3 c4 c5
        have ez : a1.add (0 * 6) = a1 := rfl
        rw [ez] at c0 c1 c2 c3 c4 c5
        rw [hA] at HBl3 HK
        have k0 := cell_regrown c0
        have k1 := cell_regrown c1
        have k2 := cell_regrown c2
        have k3 := cell_regrown c3
        have k4 := cell_regrown c4
        have k5 := cell_regrown c5
        clear hA ez c0 c1 c2 c3 c4 c5
        obtain ⟨d0, d1, d2, d3, d4, d5, d6, d7, d8, d9⟩ := blk_cells10 HBl3.out
        have KB := fun d os => Calls.regrown_of (HK.out (grow (redrawn w3 d) os))
        have KV := fun d os => Calls.regrown_of (HV.out (grow (redrawn w3 d) os))
        refine wp_region_quiet_below (by kernel_rfl) (by kernel_rfl) ?_
        refine wq_out ?_
        refine wq_do (by kernel_rfl) (fun K hK => ?_)
        go_simp
        refine hK _ ?_
        clear hK K
        refine wq_do (by kernel_rfl) (fun K hK => ?_)
        go_simp
        apply Exists.intro
        refine ⟨fun a => ?_, hK _ ?_⟩
        · exact KB a.d a.os
        clear hK K
        iterate 12 (refine wq_do (by kernel_rfl) (fun K hK => ?_); go_simp; refine hK _ ?_; clear hK K)
        refine wq_do (by kernel_rfl) (fun K hK => ?_)
        go_simp
        apply Exists.intro
        refine ⟨fun a => ?_, hK _ ?_⟩
        · exact KV a.d a.os
        clear hK K
        iterate 2 (refine wq_do (by kernel_rfl) (fun K hK => ?_); go_simp; refine hK _ ?_; clear hK K)
        iterate 9 (refine wq_skip (by kernel_rfl) ?_)
        iterate 2 (refine wq_do (by kernel_rfl) (fun K hK => ?_); go_simp; refine hK _ ?_; clear hK K)
        refine wq_nil ?_
        intro _ hw'
        obtain ⟨⟨db, ob⟩, hw''⟩ := hw'
        subst hw''
        have HB5 := Lib.hid (HB3.out.trans ((below_regrown w3 db ob).mono HB3.out.size))
        clear d0 d1 d2 d3 d4 d5 d6 d7 d8 d9 KB KV
        go_wp2_with fail
        go_ret
        exact ⟨rfl, HB5.out⟩
      · have HV1 := Lib.hid (HV.out r)
        rw [hv] at HV1
        have hv0 : 0 ≤ r.cl := by
          unfold validS at hv
          simp only [decide_eq_true_eq] at hv
          omega
        have hw0 : IntKind.i64.wrap (100 + r.cl) = 100 + r.cl := IntWalk.i64_in _ ⟨by omega, by omega⟩
        clear h hcl hk h1 hr hr0 hv HV hcr hv0 hfk
        go_enter Tryz.func28, Tryz.ntmps28
        go_wp2_with fail
        refine (KN.out _).mono ?_
        rintro e w' ⟨rfl, rfl⟩
        go_wp2_with fail
        obtain ⟨w3, hw3⟩ : ∃ w3, w.alloc (.cells #[.int .i64 1, .int .i64 x.m.fr, .int .i64 x.m.vw, .int .i64 x.m.ins, .int .i64 x.m.sq, .int .i64 x.m.rs, .slice x.A1 x.m.bt.length x.c1, .slice x.A2 x.m.vs.length x.c2, .slice x.A3 x.m.cs.length x.c3, .slice x.A4 x.m.ps.length x.c4] 38) = w3 := ⟨_, rfl⟩
        obtain ⟨g1, hg1⟩ : ∃ g1, w.heap.size = g1 := ⟨_, rfl⟩
        have HG1 := Lib.hid hg1
        have HB3 := HB
        have HBl3 := HBl
        rw [hw3] at HB3 HBl3 ⊢
        rw [hg1] at HBl3 ⊢
        clear hw3 hg1 HB HBl KNB
        have HV := HV1
        obtain ⟨a1, hA, _, c0, c1, c2, c3, c4, c5⟩ := (HH.out.below HB3.out (Nat.le_refl _)).req h0
        rw [HR.out] at c0 c1 c2 c3 c4 c5
        have ez : a1.add (0 * 6) = a1 := rfl
        rw [ez] at c0 c1 c2 c3 c4 c5
        rw [hA] at HBl3 HK
        have k0 := cell_regrown c0
        have k1 := cell_regrown c1
        have k2 := cell_regrown c2
        have k3 := cell_regrown c3
        have k4 := cell_regrown c4
        have k5 := cell_regrown c5
        clear hA ez c0 c1 c2 c3 c4 c5
        obtain ⟨d0, d1, d2, d3, d4, d5, d6, d7, d8, d9⟩ := blk_cells10 HBl3.out
        have KB := fun d os => Calls.regrown_of (HK.out (grow (redrawn w3 d) os))
        have KV := fun d os => Calls.regrown_of (HV.out (grow (redrawn w3 d) os))
        refine wp_region_quiet_below (by kernel_rfl) (by kernel_rfl) ?_
        refine wq_out ?_
        refine wq_do (by kernel_rfl) (fun K hK => ?_)
        go_simp
        refine hK _ ?_
        clear hK K
        refine wq_do (by kernel_rfl) (fun K hK => ?_)
        go_simp
        apply Exists.intro
        refine ⟨fun a => ?_, hK _ ?_⟩
        · exact KB a.d a.os
        clear hK K
        iterate 12 (refine wq_do (by kernel_rfl) (fun K hK => ?_); go_simp; refine hK _ ?_; clear hK K)
        refine wq_do (by kernel_rfl) (fun K hK => ?_)
        go_simp
        apply Exists.intro
        refine ⟨fun a => ?_, hK _ ?_⟩
        · exact KV a.d a.os
        clear hK K
        iterate 13 (refine wq_do (by kernel_rfl) (fun K hK => ?_); go_simp; refine hK _ ?_; clear hK K)
        refine wq_nil ?_
        intro _ hw'
        obtain ⟨⟨db, ob⟩, hw''⟩ := hw'
        subst hw''
        have HB5 := Lib.hid (HB3.out.trans ((below_regrown w3 db ob).mono HB3.out.size))
        clear d0 d1 d2 d3 d4 d5 d6 d7 d8 d9 KB KV
        go_wp2_with fail
        go_ret
        exact ⟨by simp, HB5.out⟩
    · have t1 : ((x.m.bt.length : Int) == 1) = false := by rw [beq_eq_false_iff_ne]; omega
      rw [oneS_no h1]
      clear h hcl hk h1 hfk
      go_enter Tryz.func28, Tryz.ntmps28
      go_wp2_with fail
      refine (KN.out _).mono ?_
      rintro e w' ⟨rfl, rfl⟩
      go_wp2_with fail
      obtain ⟨w3, hw3⟩ : ∃ w3, w.alloc (.cells #[.int .i64 1, .int .i64 x.m.fr, .int .i64 x.m.vw, .int .i64 x.m.ins, .int .i64 x.m.sq, .int .i64 x.m.rs, .slice x.A1 x.m.bt.length x.c1, .slice x.A2 x.m.vs.length x.c2, .slice x.A3 x.m.cs.length x.c3, .slice x.A4 x.m.ps.length x.c4] 38) = w3 := ⟨_, rfl⟩
      obtain ⟨g1, hg1⟩ : ∃ g1, w.heap.size = g1 := ⟨_, rfl⟩
      have HG1 := Lib.hid hg1
      have HB3 := HB
      have HBl3 := HBl
      rw [hw3] at HB3 HBl3 ⊢
      rw [hg1] at HBl3 ⊢
      clear hw3 hg1 HB HBl KNB
      obtain ⟨d0, d1, d2, d3, d4, d5, d6, d7, d8, d9⟩ := blk_cells10 HBl3.out
      have KB := fun d os => Calls.regrown_of (HK.out (grow (redrawn w3 d) os))
      refine wp_region_quiet_below (by kernel_rfl) (by kernel_rfl) ?_
      refine wq_out ?_
      refine wq_do (by kernel_rfl) (fun K hK => ?_)
      go_simp
      refine hK _ ?_
      clear hK K
      refine wq_do (by kernel_rfl) (fun K hK => ?_)
      go_simp
      apply Exists.intro
      refine ⟨fun a => ?_, hK _ ?_⟩
      · exact KB a.d a.os
      clear hK K
      iterate 7 (refine wq_do (by kernel_rfl) (fun K hK => ?_); go_simp; refine hK _ ?_; clear hK K)
      iterate 6 (refine wq_skip (by kernel_rfl) ?_)
      iterate 2 (refine wq_do (by kernel_rfl) (fun K hK => ?_); go_simp; refine hK _ ?_; clear hK K)
      iterate 9 (refine wq_skip (by kernel_rfl) ?_)
      iterate 2 (refine wq_do (by kernel_rfl) (fun K hK => ?_); go_simp; refine hK _ ?_; clear hK K)
      refine wq_nil ?_
      intro _ hw'
      obtain ⟨⟨db, ob⟩, hw''⟩ := hw'
      subst hw''
      have HB5 := Lib.hid (HB3.out.trans ((below_regrown w3 db ob).mono HB3.out.size))
      clear d0 d1 d2 d3 d4 d5 d6 d7 d8 d9 KB
      go_wp2_with fail
      go_ret
      exact ⟨rfl, HB5.out⟩
set_option maxHeartbeats 8000000 in
set_option maxRecDepth 100000 in
theorem rform_low (x : Ms) (hk : x.m.kd ≠ 1) (w : World) (f n : Int) (hf : 1 ≤ f ∧ f ≤ 4) (hfr : x.m.fr < 0) :
    Calls Tryz.prog 28 #[.agg #[.int .i64 x.m.kd, .int .i64 x.m.fr, .int .i64 x.m.vw, .int .i64 x.m.ins, .int .i64 x.m.sq, .int .i64 x.m.rs, .slice x.A1 x.m.bt.length x.c1, .slice x.A2 x.m.vs.length x.c2, .slice x.A3 x.m.cs.length x.c3, .slice x.A4 x.m.ps.length x.c4], .int .i64 f, .int .i64 n] w fun e w' => e = .returned (.bool false) ∧ Below w.heap.size w w' := by
  have HB := Lib.hid (show Below w.heap.size w (w.alloc (.cells #[.int .i64 x.m.kd, .int .i64 x.m.fr, .int .i64 x.m.vw, .int .i64 x.m.ins, .int .i64 x.m.sq, .int .i64 x.m.rs, .slice x.A1 x.m.bt.length x.c1, .slice x.A2 x.m.vs.length x.c2, .slice x.A3 x.m.cs.length x.c3, .slice x.A4 x.m.ps.length x.c4] 38)) from (Below.refl _ w).alloc (Nat.le_refl _) _)
  have HBl := Lib.hid (show Blk (w.alloc (.cells #[.int .i64 x.m.kd, .int .i64 x.m.fr, .int .i64 x.m.vw, .int .i64 x.m.ins, .int .i64 x.m.sq, .int .i64 x.m.rs, .slice x.A1 x.m.bt.length x.c1, .slice x.A2 x.m.vs.length x.c2, .slice x.A3 x.m.cs.length x.c3, .slice x.A4 x.m.ps.length x.c4] 38)) w.heap.size 38 #[.int .i64 x.m.kd, .int .i64 x.m.fr, .int .i64 x.m.vw, .int .i64 x.m.ins, .int .i64 x.m.sq, .int .i64 x.m.rs, .slice x.A1 x.m.bt.length x.c1, .slice x.A2 x.m.vs.length x.c2, .slice x.A3 x.m.cs.length x.c3, .slice x.A4 x.m.ps.length x.c4] from Blk.new _ _ _)
  have KN := Lib.hid (fun w => (rnodes_any f w).mono (R' := fun e w' => e = .returned (.int .i64 (3 * f + 1)) ∧ w' = w) (fun e w' he => ⟨by rw [he.1, nodesS_in hf.1 hf.2], he.2.symm⟩))
  have KNB := Lib.hid (fun w => (KN.out w).mono (R' := fun e w' => e = .returned (.int .i64 (3 * f + 1)) ∧ Below w.heap.size w w') (fun e w' he => ⟨he.1, by rw [he.2]; exact Below.refl _ _⟩))
  have tn : ((3 * f + 1 : Int) == 0) = false := by rw [beq_eq_false_iff_ne]; omega
  have t0 : (x.m.kd == 1) = false := beq_eq_false_iff_ne.2 hk
  have u1 : decide (x.m.fr < 0) = true := decide_eq_true hfr
  clear hk hf hfr
  go_enter Tryz.func28, Tryz.ntmps28
  go_wp2_with fail
  refine (KN.out _).mono ?_
  rintro e w' ⟨rfl, rfl⟩
  have hc0 := HBl.out.cell 0
  simp only [List.getElem?_toArray, List.getElem?_cons_zero] at hc0
  go_wp2_with fail
  clear hc0
  obtain ⟨w3, hw3⟩ : ∃ w3, w.alloc (.cells #[.int .i64 x.m.kd, .int .i64 x.m.fr, .int .i64 x.m.vw, .int .i64 x.m.ins, .int .i64 x.m.sq, .int .i64 x.m.rs, .slice x.A1 x.m.bt.length x.c1, .slice x.A2 x.m.vs.length x.c2, .slice x.A3 x.m.cs.length x.c3, .slice x.A4 x.m.ps.length x.c4] 38) = w3 := ⟨_, rfl⟩
  obtain ⟨g1, hg1⟩ : ∃ g1, w.heap.size = g1 := ⟨_, rfl⟩
  have HG1 := Lib.hid hg1
  have HB3 := HB
  have HBl3 := HBl
  rw [hw3] at HB3 HBl3 ⊢
  rw [hg1] at HBl3 ⊢
  clear hw3 hg1 HB HBl
  obtain ⟨d0, d1, d2, d3, d4, d5, d6, d7, d8, d9⟩ := blk_cells10 HBl3.out
  have KQ := fun d os => Calls.regrown_of (KNB.out (grow (redrawn w3 d) os))
  refine wp_region_quiet_below (by kernel_rfl) (by kernel_rfl) ?_
  refine wq_out ?_
  iterate 4 (refine wq_do (by kernel_rfl) (fun K hK => ?_); go_simp; refine hK _ ?_; clear hK K)
  iterate 5 (refine wq_skip (by kernel_rfl) ?_)
  refine wq_do (by kernel_rfl) (fun K hK => ?_)
  go_simp
  refine hK _ ?_
  clear hK K
  refine wq_nil ?_
  intro _ hw'
  obtain ⟨⟨db, ob⟩, hw''⟩ := hw'
  subst hw''
  have HB5 := Lib.hid (HB3.out.trans ((below_regrown w3 db ob).mono HB3.out.size))
  clear d0 d1 d2 d3 d4 d5 d6 d7 d8 d9 KQ
  go_wp2_with fail
  go_ret
  exact ⟨rfl, HB5.out⟩
set_option maxHeartbeats 8000000 in
set_option maxRecDepth 100000 in
theorem rform_high (x : Ms) (hk : x.m.kd ≠ 1) (w : World) (f n : Int) (hf : 1 ≤ f ∧ f ≤ 4) (hfr : 3 * f + 1 ≤ x.m.fr) :
    Calls Tryz.prog 28 #[.agg #[.int .i64 x.m.kd, .int .i64 x.m.fr, .int .i64 x.m.vw, .int .i64 x.m.ins, .int .i64 x.m.sq, .int .i64 x.m.rs, .slice x.A1 x.m.bt.length x.c1, .slice x.A2 x.m.vs.length x.c2, .slice x.A3 x.m.cs.length x.c3, .slice x.A4 x.m.ps.length x.c4], .int .i64 f, .int .i64 n] w fun e w' => e = .returned (.bool false) ∧ Below w.heap.size w w' := by
  have HB := Lib.hid (show Below w.heap.size w (w.alloc (.cells #[.int .i64 x.m.kd, .int .i64 x.m.fr, .int .i64 x.m.vw, .int .i64 x.m.ins, .int .i64 x.m.sq, .int .i64 x.m.rs, .slice x.A1 x.m.bt.length x.c1, .slice x.A2 x.m.vs.length x.c2, .slice x.A3 x.m.cs.length x.c3, .slice x.A4 x.m.ps.length x.c4] 38)) from (Below.refl _ w).alloc (Nat.le_refl _) _)
  have HBl := Lib.hid (show Blk (w.alloc (.cells #[.int .i64 x.m.kd, .int .i64 x.m.fr, .int .i64 x.m.vw, .int .i64 x.m.ins, .int .i64 x.m.sq, .int .i64 x.m.rs, .slice x.A1 x.m.bt.length x.c1, .slice x.A2 x.m.vs.length x.c2, .slice x.A3 x.m.cs.length x.c3, .slice x.A4 x.m.ps.length x.c4] 38)) w.heap.size 38 #[.int .i64 x.m.kd, .int .i64 x.m.fr, .int .i64 x.m.vw, .int .i64 x.m.ins, .int .i64 x.m.sq, .int .i64 x.m.rs, .slice x.A1 x.m.bt.length x.c1, .slice x.A2 x.m.vs.length x.c2, .slice x.A3 x.m.cs.length x.c3, .slice x.A4 x.m.ps.length x.c4] from Blk.new _ _ _)
  have KN := Lib.hid (fun w => (rnodes_any f w).mono (R' := fun e w' => e = .returned (.int .i64 (3 * f + 1)) ∧ w' = w) (fun e w' he => ⟨by rw [he.1, nodesS_in hf.1 hf.2], he.2.symm⟩))
  have KNB := Lib.hid (fun w => (KN.out w).mono (R' := fun e w' => e = .returned (.int .i64 (3 * f + 1)) ∧ Below w.heap.size w w') (fun e w' he => ⟨he.1, by rw [he.2]; exact Below.refl _ _⟩))
  have tn : ((3 * f + 1 : Int) == 0) = false := by rw [beq_eq_false_iff_ne]; omega
  have t0 : (x.m.kd == 1) = false := beq_eq_false_iff_ne.2 hk
  have u1 : decide (x.m.fr < 0) = false := decide_eq_false (by omega)
  have u2 : decide (3 * f + 1 ≤ x.m.fr) = true := decide_eq_true hfr
  clear hk hf hfr
  go_enter Tryz.func28, Tryz.ntmps28
  go_wp2_with fail
  refine (KN.out _).mono ?_
  rintro e w' ⟨rfl, rfl⟩
  have hc0 := HBl.out.cell 0
  simp only [List.getElem?_toArray, List.getElem?_cons_zero] at hc0
  go_wp2_with fail
  clear hc0
  obtain ⟨w3, hw3⟩ : ∃ w3, w.alloc (.cells #[.int .i64 x.m.kd, .int .i64 x.m.fr, .int .i64 x.m.vw, .int .i64 x.m.ins, .int .i64 x.m.sq, .int .i64 x.m.rs, .slice x.A1 x.m.bt.length x.c1, .slice x.A2 x.m.vs.length x.c2, .slice x.A3 x.m.cs.length x.c3, .slice x.A4 x.m.ps.length x.c4] 38) = w3 := ⟨_, rfl⟩
  obtain ⟨g1, hg1⟩ : ∃ g1, w.heap.size = g1 := ⟨_, rfl⟩
  have HG1 := Lib.hid hg1
  have HB3 := HB
  have HBl3 := HBl
  rw [hw3] at HB3 HBl3 ⊢
  rw [hg1] at HBl3 ⊢
  clear hw3 hg1 HB HBl
  obtain ⟨d0, d1, d2, d3, d4, d5, d6, d7, d8, d9⟩ := blk_cells10 HBl3.out
  have KQ := fun d os => Calls.regrown_of (KNB.out (grow (redrawn w3 d) os))
  refine wp_region_quiet_below (by kernel_rfl) (by kernel_rfl) ?_
  refine wq_out ?_
  iterate 7 (refine wq_do (by kernel_rfl) (fun K hK => ?_); go_simp; refine hK _ ?_; clear hK K)
  refine wq_do (by kernel_rfl) (fun K hK => ?_)
  go_simp
  apply Exists.intro
  refine ⟨fun a => ?_, hK _ ?_⟩
  · exact KQ a.d a.os
  clear hK K
  iterate 2 (refine wq_do (by kernel_rfl) (fun K hK => ?_); go_simp; refine hK _ ?_; clear hK K)
  refine wq_nil ?_
  intro _ hw'
  obtain ⟨⟨db, ob⟩, hw''⟩ := hw'
  subst hw''
  have HB5 := Lib.hid (HB3.out.trans ((below_regrown w3 db ob).mono HB3.out.size))
  clear d0 d1 d2 d3 d4 d5 d6 d7 d8 d9 KQ
  go_wp2_with fail
  go_ret
  exact ⟨rfl, HB5.out⟩
set_option maxHeartbeats 8000000 in
set_option maxRecDepth 100000 in
theorem rform_none (x : Ms) (hk : x.m.kd < 1 ∨ 10 < x.m.kd) (w : World) (f n : Int) (hf : 1 ≤ f ∧ f ≤ 4) (hfr : 0 ≤ x.m.fr ∧ x.m.fr < 3 * f + 1) :
    Calls Tryz.prog 28 #[.agg #[.int .i64 x.m.kd, .int .i64 x.m.fr, .int .i64 x.m.vw, .int .i64 x.m.ins, .int .i64 x.m.sq, .int .i64 x.m.rs, .slice x.A1 x.m.bt.length x.c1, .slice x.A2 x.m.vs.length x.c2, .slice x.A3 x.m.cs.length x.c3, .slice x.A4 x.m.ps.length x.c4], .int .i64 f, .int .i64 n] w fun e w' => e = .returned (.bool false) ∧ Below w.heap.size w w' := by
  have HB := Lib.hid (show Below w.heap.size w (w.alloc (.cells #[.int .i64 x.m.kd, .int .i64 x.m.fr, .int .i64 x.m.vw, .int .i64 x.m.ins, .int .i64 x.m.sq, .int .i64 x.m.rs, .slice x.A1 x.m.bt.length x.c1, .slice x.A2 x.m.vs.length x.c2, .slice x.A3 x.m.cs.length x.c3, .slice x.A4 x.m.ps.length x.c4] 38)) from (Below.refl _ w).alloc (Nat.le_refl _) _)
  have HBl := Lib.hid (show Blk (w.alloc (.cells #[.int .i64 x.m.kd, .int .i64 x.m.fr, .int .i64 x.m.vw, .int .i64 x.m.ins, .int .i64 x.m.sq, .int .i64 x.m.rs, .slice x.A1 x.m.bt.length x.c1, .slice x.A2 x.m.vs.length x.c2, .slice x.A3 x.m.cs.length x.c3, .slice x.A4 x.m.ps.length x.c4] 38)) w.heap.size 38 #[.int .i64 x.m.kd, .int .i64 x.m.fr, .int .i64 x.m.vw, .int .i64 x.m.ins, .int .i64 x.m.sq, .int .i64 x.m.rs, .slice x.A1 x.m.bt.length x.c1, .slice x.A2 x.m.vs.length x.c2, .slice x.A3 x.m.cs.length x.c3, .slice x.A4 x.m.ps.length x.c4] from Blk.new _ _ _)
  have KN := Lib.hid (fun w => (rnodes_any f w).mono (R' := fun e w' => e = .returned (.int .i64 (3 * f + 1)) ∧ w' = w) (fun e w' he => ⟨by rw [he.1, nodesS_in hf.1 hf.2], he.2.symm⟩))
  have KNB := Lib.hid (fun w => (KN.out w).mono (R' := fun e w' => e = .returned (.int .i64 (3 * f + 1)) ∧ Below w.heap.size w w') (fun e w' he => ⟨he.1, by rw [he.2]; exact Below.refl _ _⟩))
  have tn : ((3 * f + 1 : Int) == 0) = false := by rw [beq_eq_false_iff_ne]; omega
  have u1 : decide (x.m.fr < 0) = false := decide_eq_false (by omega)
  have u2 : decide (3 * f + 1 ≤ x.m.fr) = false := decide_eq_false (by omega)
  have v1 : (x.m.kd == 1) = false := beq_eq_false_iff_ne.2 (by omega)
  have v2 : (x.m.kd == 2) = false := beq_eq_false_iff_ne.2 (by omega)
  have v3 : (x.m.kd == 3) = false := beq_eq_false_iff_ne.2 (by omega)
  have v4 : (x.m.kd == 4) = false := beq_eq_false_iff_ne.2 (by omega)
  have v5 : (x.m.kd == 5) = false := beq_eq_false_iff_ne.2 (by omega)
  have v6 : (x.m.kd == 6) = false := beq_eq_false_iff_ne.2 (by omega)
  have v7 : (x.m.kd == 7) = false := beq_eq_false_iff_ne.2 (by omega)
  have v8 : (x.m.kd == 8) = false := beq_eq_false_iff_ne.2 (by omega)
  have v9 : (x.m.kd == 9) = false := beq_eq_false_iff_ne.2 (by omega)
  have v10 : (x.m.kd == 10) = false := beq_eq_false_iff_ne.2 (by omega)
  clear hk hf hfr
  go_enter Tryz.func28, Tryz.ntmps28
  go_wp2_with fail
  refine (KN.out _).mono ?_
  rintro e w' ⟨rfl, rfl⟩
  have hc0 := HBl.out.cell 0
  simp only [List.getElem?_toArray, List.getElem?_cons_zero] at hc0
  go_wp2_with fail
  clear hc0
  obtain ⟨w3, hw3⟩ : ∃ w3, w.alloc (.cells #[.int .i64 x.m.kd, .int .i64 x.m.fr, .int .i64 x.m.vw, .int .i64 x.m.ins, .int .i64 x.m.sq, .int .i64 x.m.rs, .slice x.A1 x.m.bt.length x.c1, .slice x.A2 x.m.vs.length x.c2, .slice x.A3 x.m.cs.length x.c3, .slice x.A4 x.m.ps.length x.c4] 38) = w3 := ⟨_, rfl⟩
  obtain ⟨g1, hg1⟩ : ∃ g1, w.heap.size = g1 := ⟨_, rfl⟩
  have HG1 := Lib.hid hg1
  have HB3 := HB
  have HBl3 := HBl
  rw [hw3] at HB3 HBl3 ⊢
  rw [hg1] at HBl3 ⊢
  clear hw3 hg1 HB HBl
  obtain ⟨d0, d1, d2, d3, d4, d5, d6, d7, d8, d9⟩ := blk_cells10 HBl3.out
  have KQ := fun d os => Calls.regrown_of (KNB.out (grow (redrawn w3 d) os))
  refine wp_region_quiet_below (by kernel_rfl) (by kernel_rfl) ?_
  refine wq_out ?_
  iterate 7 (refine wq_do (by kernel_rfl) (fun K hK => ?_); go_simp; refine hK _ ?_; clear hK K)
  refine wq_do (by kernel_rfl) (fun K hK => ?_)
  go_simp
  apply Exists.intro
  refine ⟨fun a => ?_, hK _ ?_⟩
  · exact KQ a.d a.os
  clear hK K
  iterate 2 (refine wq_do (by kernel_rfl) (fun K hK => ?_); go_simp; refine hK _ ?_; clear hK K)
  refine wq_nil ?_
  intro _ hw'
  obtain ⟨⟨db, ob⟩, hw''⟩ := hw'
  subst hw''
  have HB5 := Lib.hid (HB3.out.trans ((below_regrown w3 db ob).mono HB3.out.size))
  clear d0 d1 d2 d3 d4 d5 d6 d7 d8 d9 KQ
  have HBl5 := Lib.hid (HBl3.out.below (below_regrown w3 db ob) HBl3.out.lt)
  have e0 := HBl5.out.cell 0
  have e1 := HBl5.out.cell 1
  have e2 := HBl5.out.cell 2
  have e3 := HBl5.out.cell 3
  have e4 := HBl5.out.cell 4
  have e5 := HBl5.out.cell 5
  have e6 := HBl5.out.cell 6
  have e7 := HBl5.out.cell 7
  have e8 := HBl5.out.cell 8
  have e9 := HBl5.out.cell 9
  simp only [List.getElem?_toArray, List.getElem?_cons_zero, List.getElem?_cons_succ] at e0 e1 e2 e3 e4 e5 e6 e7 e8 e9
  go_wp2_with fail
  go_ret
  exact ⟨rfl, HB5.out⟩
theorem rform_any (x : Ms) {w : World} (h : x.In w w.heap.size) (hs : x.m.Short) (hcl : ∀ r ∈ x.m.bt, r.cl ≤ 9223372036854775707) (f n : Int) :
    Calls Tryz.prog 28 #[.agg #[.int .i64 x.m.kd, .int .i64 x.m.fr, .int .i64 x.m.vw, .int .i64 x.m.ins, .int .i64 x.m.sq, .int .i64 x.m.rs, .slice x.A1 x.m.bt.length x.c1, .slice x.A2 x.m.vs.length x.c2, .slice x.A3 x.m.cs.length x.c3, .slice x.A4 x.m.ps.length x.c4], .int .i64 f, .int .i64 n] w fun e w' => e = .returned (.bool (formS x.m f n)) ∧ Below w.heap.size w w' := by
  by_cases hf : 1 ≤ f ∧ f ≤ 4
  case neg =>
    rw [show formS x.m f n = false by unfold formS; rw [decide_eq_false hf]; rfl]
    exact rform_f x f n (by omega) w
  have e0 : decide (1 ≤ f ∧ f ≤ 4) = true := decide_eq_true hf
  by_cases k1 : x.m.kd = 1
  · rw [show formS x.m f n = (blankS false false false false true false false false x.m && (oneS x.m.bt n && fstS x.m)) by
      unfold formS; rw [e0, if_pos k1, Bool.true_and]
      congr 1
      unfold oneS fstS
      match x.m.bt with
      | [] => rfl
      | [r] => rfl
      | _ :: _ :: _ => rfl]
    exact rform1 x k1 h hcl f n hf
  by_cases hfr : 0 ≤ x.m.fr ∧ x.m.fr < 3 * f + 1
  case neg =>
    rw [show formS x.m f n = false by unfold formS; rw [e0, if_neg k1, decide_eq_false hfr]; rfl]
    by_cases h0 : x.m.fr < 0
    · exact rform_low x k1 w f n hf h0
    · exact rform_high x k1 w f n hf (by omega)
  have e1 : decide (0 ≤ x.m.fr ∧ x.m.fr < 3 * f + 1) = true := decide_eq_true hfr
  unfold formS
  rw [e0, if_neg k1, e1, Bool.true_and, Bool.true_and]
  by_cases k2 : x.m.kd = 2
  · rw [if_pos k2]; exact rform2 x k2 h hs f n hf hfr
  rw [if_neg k2]
  by_cases k3 : x.m.kd = 3
  · rw [if_pos k3]
    have := rform3 x k3 h hs f n hf hfr
    simp only [Bool.and_assoc]
    rw [show decide (x.m.fr = primaryS f x.m.vw x.m.ins) = (x.m.fr == primaryS f x.m.vw x.m.ins) from rfl]
    exact this
  rw [if_neg k3]
  by_cases k4 : x.m.kd = 4
  · rw [if_pos (Or.inl k4), Bool.and_assoc]; exact rform4 x k4 h hs f n hf hfr
  by_cases k5 : x.m.kd = 5
  · rw [if_pos (Or.inr k5), Bool.and_assoc]; exact rform5 x k5 h hs f n hf hfr
  rw [if_neg (show ¬ (x.m.kd = 4 ∨ x.m.kd = 5) by omega)]
  by_cases k6 : x.m.kd = 6
  · rw [if_pos k6]; exact rform6 x k6 h hs f n hf hfr
  rw [if_neg k6]
  by_cases k7 : x.m.kd = 7
  · rw [if_pos k7]; exact rform7 x k7 h hs f n hf hfr
  rw [if_neg k7]
  by_cases k8 : x.m.kd = 8
  · rw [if_pos k8]
    have := rform8 x k8 h hs f n hf hfr
    rw [show decide (1 ≤ x.m.vw ∧ x.m.vw ≤ 12 ∧ 0 ≤ x.m.ins ∧ x.m.ins ≤ f ∧ x.m.fr = primaryS f x.m.vw x.m.ins) = (decide (1 ≤ x.m.vw) && (decide (x.m.vw ≤ 12) && (decide (0 ≤ x.m.ins) && (decide (x.m.ins ≤ f) && (x.m.fr == primaryS f x.m.vw x.m.ins))))) by
      rw [Bool.eq_iff_iff]; simp only [decide_eq_true_eq, Bool.and_eq_true, beq_iff_eq]]
    simpa only [Bool.and_assoc] using this
  rw [if_neg k8]
  by_cases k9 : x.m.kd = 9
  · rw [if_pos k9]; exact rform9 x k9 h hs f n hf hfr
  rw [if_neg k9]
  by_cases k10 : x.m.kd = 10
  · rw [if_pos k10]; exact rform10 x k10 h hs f n hf hfr
  rw [if_neg k10]
  exact rform_none x (by omega) w f n hf hfr
end Go.Proofs.YtbegjadohamkkaaGreat
