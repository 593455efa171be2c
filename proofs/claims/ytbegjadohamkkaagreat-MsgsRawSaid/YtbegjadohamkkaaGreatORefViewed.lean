/- The document's own Checked, Voted, Changed, Certified, Viewed. -/
import Derived.Test.YtbegjadohamkkaaGreatOMsgViewed
import Derived.Test.YtbegjadohamkkaaGreatORefFormS
import Derived.Test.YtbegjadohamkkaaGreatOS9
import Derived.Lib.QuietBelow
namespace Go.Proofs.YtbegjadohamkkaaGreat
open Go.RowKit Go.Sort

set_option maxHeartbeats 2000000 in
set_option maxRecDepth 100000 in
theorem rchecked_any (x : Ms) (sg : Int) {w : World} (h : x.In w w.heap.size) (hsz : 6 * x.m.toks.length ≤ 70368744177664) (hsg : fit sg) {R : Nat → Prop} {rb : Nat} {L : List Deed} (hR : Rf R w rb L) (hnd : L.Nodup) :
    Calls Tryz.prog 105 #[.agg #[.int .i64 x.m.kd, .int .i64 x.m.fr, .int .i64 x.m.vw, .int .i64 x.m.ins, .int .i64 x.m.sq, .int .i64 x.m.rs, .slice x.A1 x.m.bt.length x.c1, .slice x.A2 x.m.vs.length x.c2, .slice x.A3 x.m.cs.length x.c3, .slice x.A4 x.m.ps.length x.c4], .int .i64 sg, .pointer (some ⟨rb, 0, none⟩)] w fun e w' => e = .returned (.bool (sealM L x.m sg)) ∧ Below w.heap.size w w' := by
  have hb1 : Below w.heap.size w (w.alloc (.cells #[.int .i64 x.m.kd, .int .i64 x.m.fr, .int .i64 x.m.vw, .int .i64 x.m.ins, .int .i64 x.m.sq, .int .i64 x.m.rs, .slice x.A1 x.m.bt.length x.c1, .slice x.A2 x.m.vs.length x.c2, .slice x.A3 x.m.cs.length x.c3, .slice x.A4 x.m.ps.length x.c4] 38)) := (Below.refl _ w).alloc (Nat.le_refl _) _
  have HB1 := Lib.hid hb1
  have HBl := Lib.hid (Blk.new w 38 #[.int .i64 x.m.kd, .int .i64 x.m.fr, .int .i64 x.m.vw, .int .i64 x.m.ins, .int .i64 x.m.sq, .int .i64 x.m.rs, .slice x.A1 x.m.bt.length x.c1, .slice x.A2 x.m.vs.length x.c2, .slice x.A3 x.m.cs.length x.c3, .slice x.A4 x.m.ps.length x.c4])
  have HI := Lib.hid ((h.reads (Reads.below hb1 (Nat.le_refl _))).reads (Reads.more hb1.size))
  have HR := Lib.hid (hR.below hb1)
  have HNd := Lib.hid hnd
  have HSg := Lib.hid hsg
  clear h hR hnd hb1 hsg
  go_enter Tryz.func105, Tryz.ntmps105
  go_wp2_with fail
  obtain ⟨w1, hw1⟩ : ∃ w1, (w.alloc (.cells #[.int .i64 x.m.kd, .int .i64 x.m.fr, .int .i64 x.m.vw, .int .i64 x.m.ins, .int .i64 x.m.sq, .int .i64 x.m.rs, .slice x.A1 x.m.bt.length x.c1, .slice x.A2 x.m.vs.length x.c2, .slice x.A3 x.m.cs.length x.c3, .slice x.A4 x.m.ps.length x.c4] 38)) = w1 := ⟨_, rfl⟩
  rw [hw1] at HB1 HBl HI HR ⊢
  clear hw1
  refine (rbody_msg x w1 HI.out hsz).mono ?_
  rintro e w2 ⟨hb2, ⟨bs, A, c, hbs, rfl, ho⟩ | ⟨hbs, rfl⟩⟩
  · have HB2 := Lib.hid (HB1.out.trans (hb2.mono HB1.out.size))
    have HR2 := Lib.hid (HR.out.below hb2)
    have HO := Lib.hid ho
    have HS := Lib.hid (show sealM L x.m sg = checkS L (deedM x.m bs) sg by unfold sealM; rw [hbs])
    obtain ⟨n, hn⟩ : ∃ n, bs.length = n := ⟨_, rfl⟩
    rw [hn] at HO ⊢
    have HNn := Lib.hid hn
    have d1 := (HBl.out.below hb2 HBl.out.lt).cell 1
    simp only [List.getElem?_toArray, List.getElem?_cons_zero, List.getElem?_cons_succ] at d1
    clear hb2 ho hn hbs
    go_wp2_with fail
    refine (rcheck_any HR2.out HNd.out (p := x.m.fr) (k := sg) (c := c) HSg.out (Has.own HO.out) HNn.out).mono ?_
    rintro e w3 ⟨rfl, q, rfl⟩
    clear d1
    go_wp2_with fail
    go_ret
    exact ⟨by rw [HS.out]; simp [deedM], below_drewN HB2.out q⟩
  · have HB2 := Lib.hid (HB1.out.trans (hb2.mono HB1.out.size))
    have HS := Lib.hid (show sealM L x.m sg = false by unfold sealM; rw [hbs])
    clear hb2 hbs
    go_wp2_with fail
    go_ret
    exact ⟨by rw [HS.out]; rfl, HB2.out⟩
theorem rchecked_ballot (kd nd sg : Int) (x : Cs) {w : World} (h : x.In w w.heap.size) (hs : x.c.bt.length ≤ 1000000) (hsg : fit sg) {R : Nat → Prop} {rb : Nat} {L : List Deed} (hR : Rf R w rb L) (hnd : L.Nodup) :
    Calls Tryz.prog 105 #[.agg #[.int .i64 kd, .int .i64 nd, .int .i64 x.c.vw, .int .i64 x.c.ins, .int .i64 x.c.sq, .int .i64 0, .slice x.A1 x.c.bt.length x.c1, .slice none 0 0, .slice none 0 0, .slice none 0 0], .int .i64 sg, .pointer (some ⟨rb, 0, none⟩)] w fun e w' => e = .returned (.bool (sealM L (ballotM kd nd x.c) sg)) ∧ Below w.heap.size w w' :=
  rchecked_any ⟨ballotM kd nd x.c, x.A1, x.c1, none, 0, none, 0, none, 0⟩ sg ⟨h.bt, Has.nil _ _ _, ⟨[], rfl, Has.nil _ _ _, by simp⟩, ⟨[], rfl, Has.nil _ _ _, by simp⟩⟩ (by rw [ballot_toks]; omega) hsg hR hnd
theorem rchecked_chg (nd vw sg : Int) {w : World} (hsg : fit sg) {R : Nat → Prop} {rb : Nat} {L : List Deed} (hR : Rf R w rb L) (hnd : L.Nodup) :
    Calls Tryz.prog 105 #[.agg #[.int .i64 6, .int .i64 nd, .int .i64 vw, .int .i64 0, .int .i64 0, .int .i64 0, .slice none 0 0, .slice none 0 0, .slice none 0 0, .slice none 0 0], .int .i64 sg, .pointer (some ⟨rb, 0, none⟩)] w fun e w' => e = .returned (.bool (sealM L (chgM nd vw) sg)) ∧ Below w.heap.size w w' :=
  rchecked_any ⟨chgM nd vw, none, 0, none, 0, none, 0, none, 0⟩ sg ⟨Has.nil _ _ _, Has.nil _ _ _, ⟨[], rfl, Has.nil _ _ _, by simp⟩, ⟨[], rfl, Has.nil _ _ _, by simp⟩⟩ (by have : (chgM nd vw).toks.length = 10 := rfl; rw [this]; omega) hsg hR hnd
theorem blk_cells5r {w : World} {g t : Nat} {a0 a1 a2 a3 a4 : Value} (h : Blk w g t #[a0, a1, a2, a3, a4]) :
    (∀ d os, (grow (redrawn w d) os).cell? ⟨g, 0, none⟩ = some a0) ∧ (∀ d os, (grow (redrawn w d) os).cell? ⟨g, 1, none⟩ = some a1) ∧ (∀ d os, (grow (redrawn w d) os).cell? ⟨g, 2, none⟩ = some a2) ∧ (∀ d os, (grow (redrawn w d) os).cell? ⟨g, 3, none⟩ = some a3) ∧ (∀ d os, (grow (redrawn w d) os).cell? ⟨g, 4, none⟩ = some a4) :=
  ⟨cell_regrown (h.cell 0), cell_regrown (h.cell 1), cell_regrown (h.cell 2), cell_regrown (h.cell 3), cell_regrown (h.cell 4)⟩
set_option maxHeartbeats 8000000 in
set_option maxRecDepth 100000 in
theorem rvoted_any (kd : Int) (x : Cs) (f : Int) {w : World} (hx : x.In w w.heap.size) (hs : x.Short) (hsg : ∀ v ∈ x.c.vs, fit v.sg) {R : Nat → Prop} {rb : Nat} {L : List Deed} (hR : Rf R w rb L) (hnd : L.Nodup) :
    Calls Tryz.prog 36 #[.int .i64 kd, .agg #[.int .i64 x.c.vw, .int .i64 x.c.ins, .int .i64 x.c.sq, .slice x.A1 x.c.bt.length x.c1, .slice x.A2 x.c.vs.length x.c2], .int .i64 f, .pointer (some ⟨rb, 0, none⟩)] w fun e w' => e = .returned (.bool (votedS kd f L x.c)) ∧ Below w.heap.size w w' := by
  have hb1 : Below w.heap.size w (w.alloc (.cells #[.int .i64 x.c.vw, .int .i64 x.c.ins, .int .i64 x.c.sq, .slice x.A1 x.c.bt.length x.c1, .slice x.A2 x.c.vs.length x.c2] 25)) := (Below.refl _ w).alloc (Nat.le_refl _) _
  have HB1 := Lib.hid hb1
  have HC := Lib.hid (Blk.new w 25 #[.int .i64 x.c.vw, .int .i64 x.c.ins, .int .i64 x.c.sq, .slice x.A1 x.c.bt.length x.c1, .slice x.A2 x.c.vs.length x.c2])
  have HI := Lib.hid ((hx.reads (Reads.below hb1 (Nat.le_refl _))).reads (Reads.more hb1.size))
  have HR := Lib.hid (hR.below hb1)
  have HSh := Lib.hid hs
  have HSg := Lib.hid hsg
  have HNd := Lib.hid hnd
  clear hb1 hx hR hs hsg hnd
  go_enter Tryz.func36, Tryz.ntmps36
  go_upto_region 1 with fail
  obtain ⟨w1, hw1⟩ : ∃ w1, w.alloc (.cells #[.int .i64 x.c.vw, .int .i64 x.c.ins, .int .i64 x.c.sq, .slice x.A1 x.c.bt.length x.c1, .slice x.A2 x.c.vs.length x.c2] 25) = w1 := ⟨_, rfl⟩
  obtain ⟨g, hg⟩ : ∃ g, w.heap.size = g := ⟨_, rfl⟩
  rw [hw1] at HB1 HC HI HR ⊢
  rw [hg] at HC ⊢
  clear hw1 hg
  have KR := Lib.hid (rrising_any (c := x.c2) (n := x.c.vs.length) HI.out.vs rfl (by have := HSh.out.vs; unfold maxLen; omega) f)
  have c0 := HC.out.cell 0
  have c1 := HC.out.cell 1
  have c2 := HC.out.cell 2
  have c3 := HC.out.cell 3
  have c4 := HC.out.cell 4
  simp only [List.getElem?_toArray, List.getElem?_cons_zero, List.getElem?_cons_succ] at c0 c1 c2 c3 c4
  cases hr : risingS x.c.vs f
  case false =>
    have HV := Lib.hid (show votedS kd f L x.c = false by unfold votedS; rw [hr]; rfl)
    rw [hr] at KR
    clear hr
    go_wp2_with fail
    refine KR.out.mono ?_
    rintro e w2 ⟨rfl, q, rfl⟩
    have HB2 := Lib.hid (below_drewN HB1.out q)
    go_wp2_with fail
    go_ret
    exact ⟨by rw [HV.out]; rfl, HB2.out⟩
  have HV := Lib.hid (show votedS kd f L x.c = x.c.vs.all (fun v => sealM L (ballotM kd v.nd x.c) v.sg) by unfold votedS; rw [hr]; rfl)
  rw [hr] at KR
  clear hr
  go_wp2_with fail
  refine KR.out.mono ?_
  rintro e w2 ⟨rfl, q, rfl⟩
  have HBq := Lib.hid (below_drewN (Below.refl w1.heap.size w1) q)
  obtain ⟨w2, hw2⟩ : ∃ w2, w1.drewN q = w2 := ⟨_, rfl⟩
  rw [hw2] at HBq ⊢
  clear hw2 KR c0 c1 c2 c3 c4
  go_wp2_with fail
  go_loopw [9] (fun u wr => ∃ k : Nat, u = .int .i64 k ∧ k ≤ x.c.vs.length ∧ Hid (Below w1.heap.size w1 wr) ∧ Hid ((x.c.vs.take k).all (fun v => sealM L (ballotM kd v.nd x.c) v.sg) = true)) (fun u _ => x.c.vs.length - (intOf u).toNat)
  case atStart => exact ⟨0, rfl, Nat.zero_le _, HBq, Lib.hid rfl⟩
  case round =>
    obtain ⟨k, rfl, hk, HW, HT⟩ := hrel
    have HCr := Lib.hid (HC.out.below HW.out HC.out.lt)
    have c0 := HCr.out.cell 0
    have c1 := HCr.out.cell 1
    have c2 := HCr.out.cell 2
    have c3 := HCr.out.cell 3
    have c4 := HCr.out.cell 4
    simp only [List.getElem?_toArray, List.getElem?_cons_zero, List.getElem?_cons_succ] at c0 c1 c2 c3 c4
    by_cases hlt : k < x.c.vs.length
    case pos =>
      have hvl := HSh.out.vs
      have hcl : (0 : Int) ≤ (k : Int) ∧ (k : Int) < (x.c.vs.length : Int) := by omega
      go_wp2_with fail
      obtain ⟨ad, hA, _, v0, v1⟩ := vote_at (HI.out.vs.below HW.out (Nat.le_refl _)) hlt
      have HX := Lib.hid (show x.c.vs[k]? = some x.c.vs[k] from List.getElem?_eq_getElem hlt)
      have HM := Lib.hid (List.getElem_mem hlt)
      obtain ⟨v, hv⟩ : ∃ v, x.c.vs[k] = v := ⟨_, rfl⟩
      rw [hv] at v0 v1 HX HM
      clear hv
      rw [hA] at HCr
      have r0 := cell_regrown v0
      have r1 := cell_regrown v1
      obtain ⟨d0, d1, d2, d3, d4⟩ := blk_cells5r HCr.out
      have KB := fun d os => Calls.regrown_of (rballot_any kd v.nd x (grow (redrawn wr d) os))
      rw [hA] at KB
      clear hA
      have KC0 := fun d os => rchecked_ballot kd v.nd v.sg x ((HI.out.reads (Reads.below (HW.out.trans ((below_regrown wr d os).mono HW.out.size)) (Nat.le_refl _))).reads (Reads.more (HW.out.trans ((below_regrown wr d os).mono HW.out.size)).size)) HSh.out.bt (HSg.out v HM.out) (HR.out.below (HW.out.trans ((below_regrown wr d os).mono HW.out.size))) HNd.out
      cases hse : sealM L (ballotM kd v.nd x.c) v.sg
      case false =>
        rw [hse] at KC0
        have HE := Lib.hid (show x.c.vs.all (fun v => sealM L (ballotM kd v.nd x.c) v.sg) = false from all_far (p := fun v => sealM L (ballotM kd v.nd x.c) v.sg) HX.out hse)
        clear hse
        have KC := fun d os => Calls.regrown_of (KC0 d os)
        clear KC0 c0 c1 c2 c3 c4 v0 v1
        refine wp_region_quiet_below (by kernel_rfl) (by kernel_rfl) ?_
        refine wq_out ?_
        iterate 8 (refine wq_do (by kernel_rfl) (fun K hK => ?_); go_simp; refine hK _ ?_; clear hK K)
        refine wq_do (by kernel_rfl) (fun K hK => ?_)
        go_simp
        apply Exists.intro
        refine ⟨fun a => ?_, hK _ ?_⟩
        · exact KB a.d a.os
        clear hK K
        iterate 7 (refine wq_do (by kernel_rfl) (fun K hK => ?_); go_simp; refine hK _ ?_; clear hK K)
        refine wq_do (by kernel_rfl) (fun K hK => ?_)
        go_simp
        apply Exists.intro
        refine ⟨fun a => ?_, hK _ ?_⟩
        · exact KC a.d a.os
        clear hK K
        refine wq_do (by kernel_rfl) (fun K hK => ?_)
        go_simp
        refine hK _ ?_
        clear hK K
        refine wq_nil ?_
        intro _ hw'
        obtain ⟨⟨dq, oq⟩, hw''⟩ := hw'
        subst hw''
        have HB2 := Lib.hid (HB1.out.trans ((HW.out.trans ((below_regrown wr dq oq).mono HW.out.size)).mono HB1.out.size))
        clear KB KC r0 r1 d0 d1 d2 d3 d4
        go_wp2_with fail
        go_ret
        exact ⟨by rw [HV.out, HE.out]; rfl, HB2.out⟩
      case true =>
        rw [hse] at KC0
        have HE := Lib.hid (show (x.c.vs.take (k + 1)).all (fun v => sealM L (ballotM kd v.nd x.c) v.sg) = true by rw [all_next HX.out, HT.out, hse]; rfl)
        clear hse
        have KC := fun d os => Calls.regrown_of (KC0 d os)
        clear KC0 c0 c1 c2 c3 c4 v0 v1
        refine wp_region_quiet_below (by kernel_rfl) (by kernel_rfl) ?_
        refine wq_out ?_
        iterate 8 (refine wq_do (by kernel_rfl) (fun K hK => ?_); go_simp; refine hK _ ?_; clear hK K)
        refine wq_do (by kernel_rfl) (fun K hK => ?_)
        go_simp
        apply Exists.intro
        refine ⟨fun a => ?_, hK _ ?_⟩
        · exact KB a.d a.os
        clear hK K
        iterate 7 (refine wq_do (by kernel_rfl) (fun K hK => ?_); go_simp; refine hK _ ?_; clear hK K)
        refine wq_do (by kernel_rfl) (fun K hK => ?_)
        go_simp
        apply Exists.intro
        refine ⟨fun a => ?_, hK _ ?_⟩
        · exact KC a.d a.os
        clear hK K
        refine wq_do (by kernel_rfl) (fun K hK => ?_)
        go_simp
        refine hK _ ?_
        clear hK K
        refine wq_nil ?_
        intro _ hw'
        obtain ⟨⟨dq, oq⟩, hw''⟩ := hw'
        subst hw''
        have HW2 := Lib.hid (HW.out.trans ((below_regrown wr dq oq).mono HW.out.size))
        clear KB KC r0 r1 d0 d1 d2 d3 d4
        go_wp2_with fail
        go_roundw
        case rel => exact ⟨k + 1, by go_num, by omega, HW2, HE⟩
        case measure => simp [intOf]; omega
    case neg =>
      have HE := Lib.hid (show x.c.vs.all (fun v => sealM L (ballotM kd v.nd x.c) v.sg) = true by have := HT.out; rwa [List.take_of_length_le (by omega)] at this)
      have HBw := Lib.hid (HB1.out.trans (HW.out.mono HB1.out.size))
      go_wp2_with fail
      go_ret
      exact ⟨by rw [HV.out, HE.out]; rfl, HBw.out⟩
set_option maxHeartbeats 8000000 in
set_option maxRecDepth 100000 in
theorem rchanged_any (vw : Int) {A : Option Addr} {c : Nat} {l : List Vt} (f : Int) {w : World} (hh : Has w w.heap.size A (voteCells l)) (hl : l.length ≤ 1000000) (hsg : ∀ v ∈ l, fit v.sg) {R : Nat → Prop} {rb : Nat} {L : List Deed} (hR : Rf R w rb L) (hnd : L.Nodup) :
    Calls Tryz.prog 42 #[.int .i64 vw, .slice A l.length c, .int .i64 f, .pointer (some ⟨rb, 0, none⟩)] w fun e w' => e = .returned (.bool (changedS vw f L l)) ∧ Below w.heap.size w w' := by
  have HI := Lib.hid hh
  have HR := Lib.hid hR
  have HSg := Lib.hid hsg
  have HNd := Lib.hid hnd
  clear hh hR hsg hnd
  have KR := Lib.hid (rrising_any (c := c) (n := l.length) HI.out rfl (by unfold maxLen; omega) f)
  by_cases h0 : vw < 0
  · have HV := Lib.hid (show changedS vw f L l = false by unfold changedS; rw [decide_eq_false (by omega)]; rfl)
    go_enter Tryz.func42, Tryz.ntmps42
    go_wp2_with fail
    go_ret
    exact ⟨by rw [HV.out]; rfl, Below.refl _ _⟩
  by_cases h1 : 12 ≤ vw
  · have HV := Lib.hid (show changedS vw f L l = false by unfold changedS; rw [decide_eq_false (by omega)]; rfl)
    go_enter Tryz.func42, Tryz.ntmps42
    go_wp2_with fail
    go_ret
    exact ⟨by rw [HV.out]; rfl, Below.refl _ _⟩
  have HD := Lib.hid (show changedS vw f L l = (risingS l f && l.all (fun v => sealM L (chgM v.nd vw) v.sg)) by unfold changedS; rw [decide_eq_true (by omega)]; rfl)
  cases hr : risingS l f
  case false =>
    rw [hr] at KR HD
    clear hr
    go_enter Tryz.func42, Tryz.ntmps42
    go_wp2_with fail
    refine KR.out.mono ?_
    rintro e w2 ⟨rfl, q, rfl⟩
    have HB2 := Lib.hid (below_drewN (Below.refl w.heap.size w) q)
    go_wp2_with fail
    go_ret
    exact ⟨by rw [HD.out]; rfl, HB2.out⟩
  rw [hr] at KR HD
  clear hr
  go_enter Tryz.func42, Tryz.ntmps42
  go_wp2_with fail
  refine KR.out.mono ?_
  rintro e w2 ⟨rfl, q, rfl⟩
  have HBq := Lib.hid (below_drewN (Below.refl w.heap.size w) q)
  obtain ⟨w2, hw2⟩ : ∃ w2, w.drewN q = w2 := ⟨_, rfl⟩
  rw [hw2] at HBq ⊢
  clear hw2 KR
  go_wp2_with fail
  go_loopw [9] (fun u wr => ∃ k : Nat, u = .int .i64 k ∧ k ≤ l.length ∧ Hid (Below w.heap.size w wr) ∧ Hid ((l.take k).all (fun v => sealM L (chgM v.nd vw) v.sg) = true)) (fun u _ => l.length - (intOf u).toNat)
  case atStart => exact ⟨0, rfl, Nat.zero_le _, HBq, Lib.hid rfl⟩
  case round =>
    obtain ⟨k, rfl, hk, HW, HT⟩ := hrel
    by_cases hlt : k < l.length
    case pos =>
      have hcl : (0 : Int) ≤ (k : Int) ∧ (k : Int) < (l.length : Int) := by omega
      obtain ⟨ad, rfl, _, v0, v1⟩ := vote_at (HI.out.below HW.out (Nat.le_refl _)) hlt
      have HX := Lib.hid (show l[k]? = some l[k] from List.getElem?_eq_getElem hlt)
      have HM := Lib.hid (List.getElem_mem hlt)
      obtain ⟨v, hv⟩ : ∃ v, l[k] = v := ⟨_, rfl⟩
      rw [hv] at v0 v1 HX HM
      clear hv
      go_wp2_with fail
      have r0 := cell_regrown v0
      have r1 := cell_regrown v1
      have KC0 := fun d os => rchecked_chg v.nd vw v.sg (w := grow (redrawn wr d) os) (HSg.out v HM.out) (HR.out.below (HW.out.trans ((below_regrown wr d os).mono HW.out.size))) HNd.out
      cases hse : sealM L (chgM v.nd vw) v.sg
      case false =>
        rw [hse] at KC0
        have HE := Lib.hid (show l.all (fun v => sealM L (chgM v.nd vw) v.sg) = false from all_far (p := fun v => sealM L (chgM v.nd vw) v.sg) HX.out hse)
        clear hse
        have KC := fun d os => Calls.regrown_of (KC0 d os)
        clear KC0 v0 v1
        refine wp_region_quiet_below (by kernel_rfl) (by kernel_rfl) ?_
        refine wq_out ?_
        iterate 13 (refine wq_do (by kernel_rfl) (fun K hK => ?_); go_simp; refine hK _ ?_; clear hK K)
        refine wq_do (by kernel_rfl) (fun K hK => ?_)
        go_simp
        apply Exists.intro
        refine ⟨fun a => ?_, hK _ ?_⟩
        · exact KC a.d a.os
        clear hK K
        refine wq_do (by kernel_rfl) (fun K hK => ?_)
        go_simp
        refine hK _ ?_
        clear hK K
        refine wq_nil ?_
        intro _ hw'
        obtain ⟨⟨dq, oq⟩, hw''⟩ := hw'
        subst hw''
        have HB2 := Lib.hid (HW.out.trans ((below_regrown wr dq oq).mono HW.out.size))
        clear KC r0 r1
        go_wp2_with fail
        go_ret
        exact ⟨by rw [HD.out, HE.out]; rfl, HB2.out⟩
      case true =>
        rw [hse] at KC0
        have HE := Lib.hid (show (l.take (k + 1)).all (fun v => sealM L (chgM v.nd vw) v.sg) = true by rw [all_next HX.out, HT.out, hse]; rfl)
        clear hse
        have KC := fun d os => Calls.regrown_of (KC0 d os)
        clear KC0 v0 v1
        refine wp_region_quiet_below (by kernel_rfl) (by kernel_rfl) ?_
        refine wq_out ?_
        iterate 13 (refine wq_do (by kernel_rfl) (fun K hK => ?_); go_simp; refine hK _ ?_; clear hK K)
        refine wq_do (by kernel_rfl) (fun K hK => ?_)
        go_simp
        apply Exists.intro
        refine ⟨fun a => ?_, hK _ ?_⟩
        · exact KC a.d a.os
        clear hK K
        refine wq_do (by kernel_rfl) (fun K hK => ?_)
        go_simp
        refine hK _ ?_
        clear hK K
        refine wq_nil ?_
        intro _ hw'
        obtain ⟨⟨dq, oq⟩, hw''⟩ := hw'
        subst hw''
        have HW2 := Lib.hid (HW.out.trans ((below_regrown wr dq oq).mono HW.out.size))
        clear KC r0 r1
        go_wp2_with fail
        go_roundw
        case rel => exact ⟨k + 1, by go_num, by omega, HW2, HE⟩
        case measure => simp [intOf]; omega
    case neg =>
      have HE := Lib.hid (show l.all (fun v => sealM L (chgM v.nd vw) v.sg) = true by have := HT.out; rwa [List.take_of_length_le (by omega)] at this)
      go_wp2_with fail
      go_ret
      exact ⟨by rw [HD.out, HE.out]; rfl, HW.out⟩
set_option maxHeartbeats 4000000 in
set_option maxRecDepth 100000 in
theorem rcertified_any (kd : Int) (x : Cs) (f n : Int) {w : World} (hx : x.In w w.heap.size) (hs : x.Short) (hsg : ∀ v ∈ x.c.vs, fit v.sg) (hrq : ∀ r ∈ x.c.bt, fit r.sg) {R : Nat → Prop} {rb : Nat} {L : List Deed} (hR : Rf R w rb L) (hnd : L.Nodup) :
    Calls Tryz.prog 40 #[.int .i64 kd, .agg #[.int .i64 x.c.vw, .int .i64 x.c.ins, .int .i64 x.c.sq, .slice x.A1 x.c.bt.length x.c1, .slice x.A2 x.c.vs.length x.c2], .int .i64 f, .int .i64 n, .pointer (some ⟨rb, 0, none⟩)] w fun e w' => e = .returned (.bool (certifiedS kd f n L x.c)) ∧ Below w.heap.size w w' := by
  have hb1 : Below w.heap.size w (w.alloc (.cells #[.int .i64 x.c.vw, .int .i64 x.c.ins, .int .i64 x.c.sq, .slice x.A1 x.c.bt.length x.c1, .slice x.A2 x.c.vs.length x.c2] 25)) := (Below.refl _ w).alloc (Nat.le_refl _) _
  have HB1 := Lib.hid hb1
  have HC := Lib.hid (Blk.new w 25 #[.int .i64 x.c.vw, .int .i64 x.c.ins, .int .i64 x.c.sq, .slice x.A1 x.c.bt.length x.c1, .slice x.A2 x.c.vs.length x.c2])
  have HI := Lib.hid ((hx.reads (Reads.below hb1 (Nat.le_refl _))).reads (Reads.more hb1.size))
  have HR := Lib.hid (hR.below hb1)
  have HSh := Lib.hid hs
  have HSg := Lib.hid hsg
  have HRq := Lib.hid hrq
  have HNd := Lib.hid hnd
  have KP := Lib.hid (fun w => rspot_any x.c.vw x.c.ins x.c.sq f w)
  have HD := Lib.hid (show certifiedS kd f n L x.c = (spotS x.c.vw x.c.ins x.c.sq f && (rightS x.c.bt 4 n L && votedS kd f L x.c)) from rfl)
  clear hb1 hx hR hs hsg hrq hnd
  go_enter Tryz.func40, Tryz.ntmps40
  go_upto_region 1 with fail
  obtain ⟨w1, hw1⟩ : ∃ w1, w.alloc (.cells #[.int .i64 x.c.vw, .int .i64 x.c.ins, .int .i64 x.c.sq, .slice x.A1 x.c.bt.length x.c1, .slice x.A2 x.c.vs.length x.c2] 25) = w1 := ⟨_, rfl⟩
  obtain ⟨g, hg⟩ : ∃ g, w.heap.size = g := ⟨_, rfl⟩
  rw [hw1] at HB1 HC HI HR ⊢
  rw [hg] at HC ⊢
  clear hw1 hg
  have c0 := HC.out.cell 0
  have c1 := HC.out.cell 1
  have c2 := HC.out.cell 2
  have c3 := HC.out.cell 3
  have c4 := HC.out.cell 4
  simp only [List.getElem?_toArray, List.getElem?_cons_zero, List.getElem?_cons_succ] at c0 c1 c2 c3 c4
  cases hp : spotS x.c.vw x.c.ins x.c.sq f
  case false =>
    rw [hp] at KP HD
    clear hp
    go_wp2_with fail
    refine (KP.out _).mono ?_
    rintro e w2 ⟨rfl, rfl⟩
    go_wp2_with fail
    go_ret
    exact ⟨by rw [HD.out]; rfl, HB1.out⟩
  rw [hp] at KP HD
  clear hp
  have KB := Lib.hid (rright_any HR.out HNd.out x.A1 x.c1 x.c.bt w1.heap.size (by have := HSh.out.bt; omega) HI.out.bt HRq.out 4 n)
  cases hr : rightS x.c.bt 4 n L
  case false =>
    rw [hr] at KB HD
    clear hr
    go_wp2_with fail
    refine (KP.out _).mono ?_
    rintro e w2 ⟨rfl, rfl⟩
    go_wp2_with fail
    refine KB.out.mono ?_
    rintro e w2 ⟨rfl, hb2⟩
    have HB2 := Lib.hid (HB1.out.trans (hb2.mono HB1.out.size))
    clear hb2
    go_wp2_with fail
    go_ret
    exact ⟨by rw [HD.out]; rfl, HB2.out⟩
  rw [hr] at KB HD
  clear hr
  go_wp2_with fail
  refine (KP.out _).mono ?_
  rintro e w2 ⟨rfl, rfl⟩
  go_wp2_with fail
  refine KB.out.mono ?_
  rintro e w2 ⟨rfl, hb2⟩
  have HB2 := Lib.hid (HB1.out.trans (hb2.mono HB1.out.size))
  have HC2 := Lib.hid (HC.out.below hb2 HC.out.lt)
  have KV := Lib.hid (rvoted_any kd x f ((HI.out.reads (Reads.below hb2 (Nat.le_refl _))).reads (Reads.more hb2.size)) HSh.out HSg.out (HR.out.below hb2) HNd.out)
  clear hb2 c0 c1 c2 c3 c4
  have c0 := HC2.out.cell 0
  have c1 := HC2.out.cell 1
  have c2 := HC2.out.cell 2
  have c3 := HC2.out.cell 3
  have c4 := HC2.out.cell 4
  simp only [List.getElem?_toArray, List.getElem?_cons_zero, List.getElem?_cons_succ] at c0 c1 c2 c3 c4
  go_wp2_with fail
  refine KV.out.mono ?_
  rintro e w3 ⟨rfl, hb3⟩
  have HB3 := Lib.hid (HB2.out.trans (hb3.mono HB2.out.size))
  clear hb3
  go_wp2_with fail
  go_ret
  exact ⟨by rw [HD.out]; simp, HB3.out⟩
theorem rform_view (vw : Int) (y : Ps) {w : World} (h : y.In w w.heap.size) (hs : y.p.Short) (f n : Int) :
    Calls Tryz.prog 28 #[.agg #[.int .i64 7, .int .i64 y.p.fr, .int .i64 vw, .int .i64 0, .int .i64 0, .int .i64 0, .slice none 0 0, .slice y.A1 y.p.vs.length y.c1, .slice y.A2 y.p.cs.length y.c2, .slice none 0 0], .int .i64 f, .int .i64 n] w fun e w' => e = .returned (.bool (formS (viewM vw y.p) f n)) ∧ Below w.heap.size w w' :=
  rform_any (viewX vw y) (viewX_in h) (view_short hs) (by simp [viewX, viewM]) f n
theorem rchecked_view (vw sg : Int) (y : Ps) {w : World} (h : y.In w w.heap.size) (hsz : 6 * (viewM vw y.p).toks.length ≤ 70368744177664) (hsg : fit sg) {R : Nat → Prop} {rb : Nat} {L : List Deed} (hR : Rf R w rb L) (hnd : L.Nodup) :
    Calls Tryz.prog 105 #[.agg #[.int .i64 7, .int .i64 y.p.fr, .int .i64 vw, .int .i64 0, .int .i64 0, .int .i64 0, .slice none 0 0, .slice y.A1 y.p.vs.length y.c1, .slice y.A2 y.p.cs.length y.c2, .slice none 0 0], .int .i64 sg, .pointer (some ⟨rb, 0, none⟩)] w fun e w' => e = .returned (.bool (sealM L (viewM vw y.p) sg)) ∧ Below w.heap.size w w' :=
  rchecked_any (viewX vw y) sg (viewX_in h) hsz hsg hR hnd
/-- A part whose numbers came in. -/
structure Pt.Fine (q : Pt) : Prop where
  sg : fit q.sg
  vs : ∀ v ∈ q.vs, fit v.sg
  cs : ∀ c ∈ q.cs, (∀ v ∈ c.vs, fit v.sg) ∧ ∀ r ∈ c.bt, fit r.sg
set_option maxHeartbeats 8000000 in
set_option maxRecDepth 100000 in
theorem rviewed_any (vw : Int) (y : Ps) (f n : Int) {w : World} (hx : y.In w w.heap.size) (hs : y.p.Short) (hsz : 6 * (viewM vw y.p).toks.length ≤ 70368744177664) (hfi : y.p.Fine) {R : Nat → Prop} {rb : Nat} {L : List Deed} (hR : Rf R w rb L) (hnd : L.Nodup) :
    Calls Tryz.prog 44 #[.int .i64 vw, .agg #[.int .i64 y.p.fr, .slice y.A1 y.p.vs.length y.c1, .slice y.A2 y.p.cs.length y.c2, .int .i64 y.p.sg], .int .i64 f, .int .i64 n, .pointer (some ⟨rb, 0, none⟩)] w fun e w' => e = .returned (.bool (viewedS vw f n L y.p)) ∧ Below w.heap.size w w' := by
  obtain ⟨wa, hwa⟩ : ∃ wa, w.alloc (.cells #[.int .i64 y.p.fr, .slice y.A1 y.p.vs.length y.c1, .slice y.A2 y.p.cs.length y.c2, .int .i64 y.p.sg] 73) = wa := ⟨_, rfl⟩
  obtain ⟨we, hwe⟩ : ∃ we, wa.alloc (.cells #[.int .i64 7, .int .i64 y.p.fr, .int .i64 vw, .int .i64 0, .int .i64 0, .int .i64 0, .slice none 0 0, .slice y.A1 y.p.vs.length y.c1, .slice y.A2 y.p.cs.length y.c2, .slice none 0 0] 38) = we := ⟨_, rfl⟩
  have hba : Below w.heap.size w wa := hwa ▸ (Below.refl _ w).alloc (Nat.le_refl _) _
  have hbe : Below wa.heap.size wa we := hwe ▸ (Below.refl _ wa).alloc (Nat.le_refl _) _
  have qa : Blk wa w.heap.size 73 #[.int .i64 y.p.fr, .slice y.A1 y.p.vs.length y.c1, .slice y.A2 y.p.cs.length y.c2, .int .i64 y.p.sg] := hwa ▸ Blk.new _ _ _
  have qe : Blk we wa.heap.size 38 #[.int .i64 7, .int .i64 y.p.fr, .int .i64 vw, .int .i64 0, .int .i64 0, .int .i64 0, .slice none 0 0, .slice y.A1 y.p.vs.length y.c1, .slice y.A2 y.p.cs.length y.c2, .slice none 0 0] := hwe ▸ Blk.new _ _ _
  have sa : wa.heap.size = w.heap.size + 1 := by rw [← hwa]; simp
  have HB := Lib.hid (hba.trans (hbe.mono hba.size))
  have HPt := Lib.hid (qa.below hbe qa.lt)
  have HM := Lib.hid qe
  rw [sa] at HM
  have HI := Lib.hid ((hx.reads (Reads.below HB.out (Nat.le_refl _))).reads (Reads.more HB.out.size))
  have HR := Lib.hid (hR.below HB.out)
  have HSh := Lib.hid hs
  have HFi := Lib.hid hfi
  have HNd := Lib.hid hnd
  have HWw := Lib.hid (show (w.alloc (.cells #[.int .i64 y.p.fr, .slice y.A1 y.p.vs.length y.c1, .slice y.A2 y.p.cs.length y.c2, .int .i64 y.p.sg] 73)).alloc (.cells #[.int .i64 7, .int .i64 y.p.fr, .int .i64 vw, .int .i64 0, .int .i64 0, .int .i64 0, .slice none 0 0, .slice y.A1 y.p.vs.length y.c1, .slice y.A2 y.p.cs.length y.c2, .slice none 0 0] 38) = we by rw [hwa, hwe])
  clear hba hbe qa qe sa hx hs hfi hR hnd hwa hwe
  have HD := Lib.hid (show viewedS vw f n L y.p = (formS (viewM vw y.p) f n && (sealM L (viewM vw y.p) y.p.sg && (changedS (vw - 1) f L y.p.vs && y.p.cs.all (fun c => certifiedS 4 f n L c)))) from rfl)
  go_enter Tryz.func44, Tryz.ntmps44
  go_upto_region 2 with fail
  rw [HWw.out]
  obtain ⟨g, hg⟩ : ∃ g, w.heap.size = g := ⟨_, rfl⟩
  have HG := Lib.hid hg
  rw [hg] at HPt HM ⊢
  clear hg
  have KF := Lib.hid (rform_view vw y HI.out HSh.out f n)
  have p0 := HPt.out.cell 0
  have p1 := HPt.out.cell 1
  have p2 := HPt.out.cell 2
  have p3 := HPt.out.cell 3
  simp only [List.getElem?_toArray, List.getElem?_cons_zero, List.getElem?_cons_succ] at p0 p1 p2 p3
  have m0 := HM.out.cell 0
  have m1 := HM.out.cell 1
  have m2 := HM.out.cell 2
  have m3 := HM.out.cell 3
  have m4 := HM.out.cell 4
  have m5 := HM.out.cell 5
  have m6 := HM.out.cell 6
  have m7 := HM.out.cell 7
  have m8 := HM.out.cell 8
  have m9 := HM.out.cell 9
  simp only [List.getElem?_toArray, List.getElem?_cons_zero, List.getElem?_cons_succ] at m0 m1 m2 m3 m4 m5 m6 m7 m8 m9
  cases hf : formS (viewM vw y.p) f n
  case false =>
    rw [hf] at KF HD
    clear hf
    go_wp2_with fail
    refine KF.out.mono ?_
    rintro e w1 ⟨rfl, hb⟩
    have HB1 := Lib.hid (HB.out.trans (hb.mono HB.out.size))
    clear hb
    go_wp2_with fail
    go_ret
    exact ⟨by rw [HD.out]; rfl, HB1.out⟩
  have hv := form_view hf
  rw [hf] at KF HD
  clear hf
  go_wp2_with fail
  refine KF.out.mono ?_
  rintro e w1 ⟨rfl, hb⟩
  clear p0 p1 p2 p3 m0 m1 m2 m3 m4 m5 m6 m7 m8 m9
  have HB1 := Lib.hid (HB.out.trans (hb.mono HB.out.size))
  have HPt1 := Lib.hid (HPt.out.below hb HPt.out.lt)
  have HM1 := Lib.hid (HM.out.below hb HM.out.lt)
  have HI1 := Lib.hid ((HI.out.reads (Reads.below hb (Nat.le_refl _))).reads (Reads.more hb.size))
  have HR1 := Lib.hid (HR.out.below hb)
  clear hb
  clear HPt HM HI HR KF
  have KS := Lib.hid (rchecked_view vw y.p.sg y HI1.out hsz HFi.out.sg HR1.out HNd.out)
  have p0 := HPt1.out.cell 0
  have p1 := HPt1.out.cell 1
  have p2 := HPt1.out.cell 2
  have p3 := HPt1.out.cell 3
  simp only [List.getElem?_toArray, List.getElem?_cons_zero, List.getElem?_cons_succ] at p0 p1 p2 p3
  have m0 := HM1.out.cell 0
  have m1 := HM1.out.cell 1
  have m2 := HM1.out.cell 2
  have m3 := HM1.out.cell 3
  have m4 := HM1.out.cell 4
  have m5 := HM1.out.cell 5
  have m6 := HM1.out.cell 6
  have m7 := HM1.out.cell 7
  have m8 := HM1.out.cell 8
  have m9 := HM1.out.cell 9
  simp only [List.getElem?_toArray, List.getElem?_cons_zero, List.getElem?_cons_succ] at m0 m1 m2 m3 m4 m5 m6 m7 m8 m9
  cases hse : sealM L (viewM vw y.p) y.p.sg
  case false =>
    rw [hse] at KS HD
    clear hse
    go_wp2_with fail
    refine KS.out.mono ?_
    rintro e w2 ⟨rfl, hb⟩
    have HB2 := Lib.hid (HB1.out.trans (hb.mono HB1.out.size))
    clear hb
    go_wp2_with fail
    go_ret
    exact ⟨by rw [HD.out]; rfl, HB2.out⟩
  rw [hse] at KS HD
  clear hse
  go_wp2_with fail
  refine KS.out.mono ?_
  rintro e w2 ⟨rfl, hb⟩
  clear p0 p1 p2 p3 m0 m1 m2 m3 m4 m5 m6 m7 m8 m9
  have HB2 := Lib.hid (HB1.out.trans (hb.mono HB1.out.size))
  have HPt2 := Lib.hid (HPt1.out.below hb HPt1.out.lt)
  have HM2 := Lib.hid (HM1.out.below hb HM1.out.lt)
  have HI2 := Lib.hid ((HI1.out.reads (Reads.below hb (Nat.le_refl _))).reads (Reads.more hb.size))
  have HR2 := Lib.hid (HR1.out.below hb)
  clear hb
  clear HPt1 HM1 HI1 HR1 KS
  have KC := Lib.hid (rchanged_any (vw - 1) (c := y.c1) f HI2.out.vs HSh.out.vs HFi.out.vs HR2.out HNd.out)
  have p0 := HPt2.out.cell 0
  have p1 := HPt2.out.cell 1
  have p2 := HPt2.out.cell 2
  have p3 := HPt2.out.cell 3
  simp only [List.getElem?_toArray, List.getElem?_cons_zero, List.getElem?_cons_succ] at p0 p1 p2 p3
  have m0 := HM2.out.cell 0
  have m1 := HM2.out.cell 1
  have m2 := HM2.out.cell 2
  have m3 := HM2.out.cell 3
  have m4 := HM2.out.cell 4
  have m5 := HM2.out.cell 5
  have m6 := HM2.out.cell 6
  have m7 := HM2.out.cell 7
  have m8 := HM2.out.cell 8
  have m9 := HM2.out.cell 9
  simp only [List.getElem?_toArray, List.getElem?_cons_zero, List.getElem?_cons_succ] at m0 m1 m2 m3 m4 m5 m6 m7 m8 m9
  cases hc : changedS (vw - 1) f L y.p.vs
  case false =>
    rw [hc] at KC HD
    clear hc
    go_wp2_with fail
    refine KC.out.mono ?_
    rintro e w3 ⟨rfl, hb⟩
    have HB3 := Lib.hid (HB2.out.trans (hb.mono HB2.out.size))
    clear hb
    go_wp2_with fail
    go_ret
    exact ⟨by rw [HD.out]; rfl, HB3.out⟩
  rw [hc] at KC HD
  clear hc
  go_wp2_with fail
  refine KC.out.mono ?_
  rintro e w3 ⟨rfl, hb⟩
  clear p0 p1 p2 p3 m0 m1 m2 m3 m4 m5 m6 m7 m8 m9
  have HB3 := Lib.hid (HB2.out.trans (hb.mono HB2.out.size))
  have HPt3 := Lib.hid (HPt2.out.below hb HPt2.out.lt)
  have HM3 := Lib.hid (HM2.out.below hb HM2.out.lt)
  have HI3 := Lib.hid ((HI2.out.reads (Reads.below hb (Nat.le_refl _))).reads (Reads.more hb.size))
  have HR3 := Lib.hid (HR2.out.below hb)
  clear hb
  clear HPt2 HM2 HI2 HR2 KC HM3
  go_wp2_with fail
  go_loopw [12] (fun u wr => ∃ k : Nat, u = .int .i64 k ∧ k ≤ y.p.cs.length ∧ Hid (Below w3.heap.size w3 wr) ∧ Hid ((y.p.cs.take k).all (fun c => certifiedS 4 f n L c) = true)) (fun u _ => y.p.cs.length - (intOf u).toNat)
  case atStart => exact ⟨0, rfl, Nat.zero_le _, Lib.hid (Below.refl _ _), Lib.hid rfl⟩
  case round =>
    obtain ⟨k, rfl, hk, HW, HT⟩ := hrel
    have HPr := Lib.hid (HPt3.out.below HW.out HPt3.out.lt)
    have p0 := HPr.out.cell 0
    have p1 := HPr.out.cell 1
    have p2 := HPr.out.cell 2
    have p3 := HPr.out.cell 3
    simp only [List.getElem?_toArray, List.getElem?_cons_zero, List.getElem?_cons_succ] at p0 p1 p2 p3
    by_cases hlt : k < y.p.cs.length
    case pos =>
      have hvl := HSh.out.cs
      have hcl : (0 : Int) ≤ (k : Int) ∧ (k : Int) < (y.p.cs.length : Int) := by omega
      go_upto_region 7 with fail
      obtain ⟨ad, x, hA, _, hxc, hxi, c0, c1, c2, c3, c4⟩ := HasCerts.at (HI3.out.cs.reads (Reads.below HW.out (Nat.le_refl _))) hlt
      have HX := Lib.hid (show y.p.cs[k]? = some x.c by rw [List.getElem?_eq_getElem hlt, hxc])
      have hM : x.c ∈ y.p.cs := hxc ▸ List.getElem_mem hlt
      have KV := Lib.hid (rcertified_any 4 x f n (hxi.reads (Reads.more HW.out.size)) ⟨(HSh.out.each _ hM).1, (HSh.out.each _ hM).2⟩ (HFi.out.cs _ hM).1 (HFi.out.cs _ hM).2 (HR3.out.below HW.out) HNd.out)
      rw [hA] at p2
      clear hA hxc hxi hM
      cases hse : certifiedS 4 f n L x.c
      case false =>
        rw [hse] at KV
        have HE := Lib.hid (show y.p.cs.all (fun c => certifiedS 4 f n L c) = false from all_far (p := fun c => certifiedS 4 f n L c) HX.out hse)
        clear hse
        go_wp2_with fail
        refine KV.out.mono ?_
        rintro e w4 ⟨rfl, hb⟩
        have HB4 := Lib.hid (HB3.out.trans ((HW.out.trans (hb.mono HW.out.size)).mono HB3.out.size))
        clear hb c0 c1 c2 c3 c4 p0 p1 p2 p3
        go_wp2_with fail
        go_ret
        exact ⟨by rw [HD.out, HE.out]; rfl, HB4.out⟩
      case true =>
        rw [hse] at KV
        have HE := Lib.hid (show (y.p.cs.take (k + 1)).all (fun c => certifiedS 4 f n L c) = true by rw [all_next HX.out, HT.out, hse]; rfl)
        clear hse
        go_wp2_with fail
        refine KV.out.mono ?_
        rintro e w4 ⟨rfl, hb⟩
        have HW4 := Lib.hid (HW.out.trans (hb.mono HW.out.size))
        clear hb c0 c1 c2 c3 c4 p0 p1 p2 p3
        go_wp2_with fail
        go_roundw
        case rel => exact ⟨k + 1, by go_num, by omega, HW4, HE⟩
        case measure => simp [intOf]; omega
    case neg =>
      have HE := Lib.hid (show y.p.cs.all (fun c => certifiedS 4 f n L c) = true by have := HT.out; rwa [List.take_of_length_le (by omega)] at this)
      have HBw := Lib.hid (HB3.out.trans (HW.out.mono HB3.out.size))
      go_wp2_with fail
      go_ret
      exact ⟨by rw [HD.out, HE.out]; rfl, HBw.out⟩
end Go.Proofs.YtbegjadohamkkaaGreat
