/- The contract of the document's parts. -/
import Derived.Test.YtbegjadohamkkaaGreatOS2
import Derived.Test.YtbegjadohamkkaaGreatOS5
namespace Go.Proofs.YtbegjadohamkkaaGreat
open Go.RowKit Go.Sort

/-- A part of a row: where its fields lie. -/
theorem four_at {w : World} {B : Nat} {A : Option Addr} {L : List Ps} (h : Has w B A (L.flatMap Ps.cells)) {k : Nat} (hk : k < L.length) :
    ∃ ad, A = some ad ∧ w.cell? (ad.add (k * 4)) = some (.int .i64 L[k].p.fr) ∧ w.cell? ⟨(ad.add (k * 4)).block, (ad.add (k * 4)).off + 1, none⟩ = some (.slice L[k].A1 L[k].p.vs.length L[k].c1) ∧
      w.cell? ⟨(ad.add (k * 4)).block, (ad.add (k * 4)).off + 2, none⟩ = some (.slice L[k].A2 L[k].p.cs.length L[k].c2) ∧ w.cell? ⟨(ad.add (k * 4)).block, (ad.add (k * 4)).off + 3, none⟩ = some (.int .i64 L[k].p.sg) := by
  obtain ⟨ad, e, _, hc⟩ := h.thing (f := Ps.cells) (s := 4) (fun _ => rfl) (by omega) hk
  refine ⟨ad, e, hc 0 _ rfl, ?_, ?_, ?_⟩
  · rw [← add_pos _ _ _ (by omega)]; exact hc 1 _ rfl
  · rw [← add_pos _ _ _ (by omega)]; exact hc 2 _ rfl
  · rw [← add_pos _ _ _ (by omega)]; exact hc 3 _ rfl
theorem parts_no1 {view : Int} {l : List Pt} {f n : Int} (h : l.all (partS view f n) = false) : partsS view l f n = false := by unfold partsS; rw [h]; simp
theorem parts_no2 {view : Int} {l : List Pt} {f n : Int} (h : riseP l = false) : partsS view l f n = false := by unfold partsS; rw [h]; simp
theorem decide_and_no {p : Prop} [Decidable p] {b : Bool} (h : ¬ p) : (decide p && b) = false := by rw [decide_eq_false h]; rfl
/-- A row of parts, looked at as far as k. -/
structure PaSt (w : World) (l : List Pt) (view f n : Int) (k : Nat) (wr : World) : Prop where
  low : Below w.heap.size w wr
  all : (l.take k).all (partS view f n) = true
  up : riseP l = riseP (l.drop (k - 1))
/-- A part's lists are not too long. -/
structure Pt.Short (p : Pt) : Prop where
  vs : p.vs.length ≤ 1000000
  cs : p.cs.length ≤ 1000000
  each : ∀ c ∈ p.cs, c.bt.length ≤ 1000000 ∧ c.vs.length ≤ 1000000
set_option maxHeartbeats 8000000 in
set_option maxRecDepth 100000 in
theorem rparts_loop (m : Ms) {w : World} (h : m.In w w.heap.size) (hs : ∀ p ∈ m.m.ps, p.Short) (hl : m.m.ps.length ≤ 1000000) (f n : Int) (hf : 1 ≤ f ∧ f ≤ 4) (hlen : (m.m.ps.length : Int) = 2 * f + 1) :
    Calls Tryz.prog 84 #[.agg #[.int .i64 m.m.kd, .int .i64 m.m.fr, .int .i64 m.m.vw, .int .i64 m.m.ins, .int .i64 m.m.sq, .int .i64 m.m.rs, .slice m.A1 m.m.bt.length m.c1, .slice m.A2 m.m.vs.length m.c2, .slice m.A3 m.m.cs.length m.c3, .slice m.A4 m.m.ps.length m.c4], .int .i64 f, .int .i64 n] w fun e w' => e = .returned (.bool (partsS m.m.vw m.m.ps f n)) ∧ Below w.heap.size w w' := by
  obtain ⟨L, hLc, hL, hLI⟩ := h.ps
  have hll : L.length = m.m.ps.length := by rw [← hLc]; simp
  have HLc := Lib.hid hLc
  have HW0 := Lib.hid (show Below w.heap.size w (w.alloc (.cells #[.int .i64 m.m.kd, .int .i64 m.m.fr, .int .i64 m.m.vw, .int .i64 m.m.ins, .int .i64 m.m.sq, .int .i64 m.m.rs, .slice m.A1 m.m.bt.length m.c1, .slice m.A2 m.m.vs.length m.c2, .slice m.A3 m.m.cs.length m.c3, .slice m.A4 m.m.ps.length m.c4] 38)) from (Below.refl _ _).alloc (Nat.le_refl _) _)
  have HMB := Lib.hid (show Blk (w.alloc (.cells #[.int .i64 m.m.kd, .int .i64 m.m.fr, .int .i64 m.m.vw, .int .i64 m.m.ins, .int .i64 m.m.sq, .int .i64 m.m.rs, .slice m.A1 m.m.bt.length m.c1, .slice m.A2 m.m.vs.length m.c2, .slice m.A3 m.m.cs.length m.c3, .slice m.A4 m.m.ps.length m.c4] 38)) w.heap.size 38 #[.int .i64 m.m.kd, .int .i64 m.m.fr, .int .i64 m.m.vw, .int .i64 m.m.ins, .int .i64 m.m.sq, .int .i64 m.m.rs, .slice m.A1 m.m.bt.length m.c1, .slice m.A2 m.m.vs.length m.c2, .slice m.A3 m.m.cs.length m.c3, .slice m.A4 m.m.ps.length m.c4] from Blk.new _ _ _)
  have HHL := Lib.hid ((hL.below HW0.out (Nat.le_refl _)).tight)
  have HLI := Lib.hid (fun x hx => ((hLI x hx).reads (Reads.below HW0.out (Nat.le_refl _))))
  have HSh := Lib.hid hs
  have KQ := fun (W : World) d os => Calls.regrown_of ((rquorum_any f (grow (redrawn W d) os)).mono fun _ _ ⟨he, hw⟩ => ⟨he, hw ▸ Below.refl _ _⟩)
  have KN0 := fun (W : World) d os => Calls.regrown_of ((rnodes_any f (grow (redrawn W d) os)).mono fun _ _ ⟨he, hw⟩ => ⟨he, hw ▸ Below.refl _ _⟩)
  rw [quorumS_in hf.1 hf.2] at KQ
  rw [nodesS_in hf.1 hf.2] at KN0
  have HKN := Lib.hid KN0
  have HKQ := Lib.hid KQ
  have hne : ((m.m.ps.length : Int) != 2 * f + 1) = false := by simpa using hlen
  have HLen := Lib.hid hlen
  clear hlen
  clear h hs hL hLI hLc KQ KN0
  go_enter Tryz.func84, Tryz.ntmps84
  go_wp2_with fail
  obtain ⟨w0, hw0⟩ : ∃ w0, w.alloc (.cells #[.int .i64 m.m.kd, .int .i64 m.m.fr, .int .i64 m.m.vw, .int .i64 m.m.ins, .int .i64 m.m.sq, .int .i64 m.m.rs, .slice m.A1 m.m.bt.length m.c1, .slice m.A2 m.m.vs.length m.c2, .slice m.A3 m.m.cs.length m.c3, .slice m.A4 m.m.ps.length m.c4] 38) = w0 := ⟨_, rfl⟩
  rw [hw0] at HW0 HMB HHL HLI ⊢
  obtain ⟨g0, hg0⟩ : ∃ g0, w.heap.size = g0 := ⟨_, rfl⟩
  have HG0 := Lib.hid hg0
  rw [hg0] at HMB ⊢
  clear hw0 hg0
  have m9 := HMB.out.cell 9
  simp only [List.getElem?_toArray, List.getElem?_cons_zero, List.getElem?_cons_succ] at m9
  have m9 := cell_regrown m9
  have KQ := HKQ.out w0
  have HB1 := Lib.hid (Below.refl w0.heap.size w0)
  refine wp_region_quiet_below (by kernel_rfl) (by kernel_rfl) ?_
  refine wq_out ?_
  iterate 4 (refine wq_do (by kernel_rfl) (fun K hK => ?_); go_simp; refine hK _ ?_; clear hK K)
  refine wq_do (by kernel_rfl) (fun K hK => ?_)
  go_simp
  apply Exists.intro
  refine ⟨fun a => ?_, hK _ ?_⟩
  · exact KQ a.d a.os
  clear hK K
  refine wq_do (by kernel_rfl) (fun K hK => ?_)
  go_simp
  refine hK _ ?_
  clear hK K
  refine wq_nil ?_
  intro _ hw'
  obtain ⟨⟨dq, osq⟩, hw''⟩ := hw'
  subst hw''
  have HB3 := Lib.hid (HB1.out.trans ((below_regrown w0 dq osq).mono HB1.out.size))
  clear KQ m9 HB1
  have HL0 := Lib.hid (show PaSt w0 m.m.ps m.m.vw f n 0 (grow (redrawn w0 dq) osq) from ⟨HB3.out, rfl, rfl⟩)
  go_wp2_with fail
  go_loopw [7] (fun y wr => ∃ k : Nat, y = .int .i64 k ∧ k ≤ m.m.ps.length ∧ Hid (PaSt w0 m.m.ps m.m.vw f n k wr)) (fun y _ => m.m.ps.length - (intOf y).toNat)
  case atStart => exact ⟨0, rfl, Nat.zero_le _, HL0.out⟩
  case round =>
    obtain ⟨k, rfl, hk, HS⟩ := hrel
    have hmb := HMB.out.below HS.out.low HMB.out.lt
    have m9 := hmb.cell 9
    simp only [List.getElem?_toArray, List.getElem?_cons_zero, List.getElem?_cons_succ] at m9
    clear hmb
    by_cases hlt : k < m.m.ps.length
    · obtain ⟨ad, hA, c0, c1, c2, c3⟩ := four_at (HHL.out.below HS.out.low (Nat.le_refl _)) (k := k) (by omega)
      have hkL : k < L.length := by omega
      obtain ⟨x, hx⟩ : ∃ x, L[k] = x := ⟨_, rfl⟩
      rw [hx] at c0 c1 c2 c3
      rw [hA] at m9
      have hxm : x ∈ L := hx ▸ List.getElem_mem hkL
      have HX := Lib.hid (show m.m.ps[k]? = some x.p by rw [← HLc.out, List.getElem?_map, List.getElem?_eq_getElem hkL, hx]; rfl)
      have HSx := Lib.hid (HSh.out x.p (by rw [← HLc.out]; exact List.mem_map_of_mem hxm))
      have HIx := Lib.hid (fun (W : World) (hW : RowKit.Below w0.heap.size w0 W) => ((HLI.out x hxm).reads (Reads.below hW HW0.out.size)).reads (Reads.more (B' := W.heap.size) (Nat.le_trans HW0.out.size hW.size)))
      have HB1 := Lib.hid (HS.out.low.alloc HS.out.low.size (.cells #[.int .i64 x.p.fr, .slice x.A1 x.p.vs.length x.c1, .slice x.A2 x.p.cs.length x.c2, .int .i64 x.p.sg] 73))
      have HBk := Lib.hid (Blk.new wr 73 #[.int .i64 x.p.fr, .slice x.A1 x.p.vs.length x.c1, .slice x.A2 x.p.cs.length x.c2, .int .i64 x.p.sg])
      clear hx hxm
      go_wp2_with fail
      clear c0 c1 c2 c3 m9
      obtain ⟨w1, hw1⟩ : ∃ w1, wr.alloc (.cells #[.int .i64 x.p.fr, .slice x.A1 x.p.vs.length x.c1, .slice x.A2 x.p.cs.length x.c2, .int .i64 x.p.sg] 73) = w1 := ⟨_, rfl⟩
      obtain ⟨g1, hg1⟩ : ∃ g1, wr.heap.size = g1 := ⟨_, rfl⟩
      rw [hw1] at HB1 HBk ⊢
      rw [hg1] at HBk ⊢
      clear hw1 hg1
      have HM1 := Lib.hid (HMB.out.below HB1.out HMB.out.lt)
      have b0 := cell_regrown (HBk.out.cell 0)
      have b1 := cell_regrown (HBk.out.cell 1)
      have b2 := cell_regrown (HBk.out.cell 2)
      have b3 := cell_regrown (HBk.out.cell 3)
      have m2 := cell_regrown (HM1.out.cell 2)
      have m9 := cell_regrown (HM1.out.cell 9)
      rw [hA] at m9
      have KN := HKN.out w1
      have KV := fun d os => Calls.regrown_of (rleaves_any (w := grow (redrawn w1 d) os) (c1 := x.c1) (c3 := x.c2) (HIx.out _ (HB1.out.trans ((below_regrown w1 d os).mono HB1.out.size))).vs HSx.out.vs (HIx.out _ (HB1.out.trans ((below_regrown w1 d os).mono HB1.out.size))).cs HSx.out.cs HSx.out.each m.m.vw f n)
      by_cases h1 : x.p.fr < 0
      · have HE := Lib.hid (parts_no1 (all_far (p := partS m.m.vw f n) HX.out (decide_and_no (by omega))))
        have u1 : decide (x.p.fr < 0) = true := decide_eq_true h1
        clear h1
        refine wp_region_quiet_below (by kernel_rfl) (by kernel_rfl) ?_
        refine wq_out ?_
        iterate 4 (refine wq_do (by kernel_rfl) (fun K hK => ?_); go_simp; refine hK _ ?_; clear hK K)
        iterate 5 (refine wq_skip (by kernel_rfl) ?_)
        iterate 2 (refine wq_do (by kernel_rfl) (fun K hK => ?_); go_simp; refine hK _ ?_; clear hK K)
        iterate 14 (refine wq_skip (by kernel_rfl) ?_)
        iterate 2 (refine wq_do (by kernel_rfl) (fun K hK => ?_); go_simp; refine hK _ ?_; clear hK K)
        iterate 3 (refine wq_skip (by kernel_rfl) ?_)
        iterate 2 (refine wq_do (by kernel_rfl) (fun K hK => ?_); go_simp; refine hK _ ?_; clear hK K)
        iterate 3 (refine wq_skip (by kernel_rfl) ?_)
        iterate 2 (refine wq_do (by kernel_rfl) (fun K hK => ?_); go_simp; refine hK _ ?_; clear hK K)
        iterate 10 (refine wq_skip (by kernel_rfl) ?_)
        refine wq_do (by kernel_rfl) (fun K hK => ?_)
        go_simp
        refine hK _ ?_
        clear hK K
        refine wq_nil ?_
        intro _ hw'
        obtain ⟨⟨dq, osq⟩, hw''⟩ := hw'
        subst hw''
        have HB3 := Lib.hid (HB1.out.trans ((below_regrown w1 dq osq).mono HB1.out.size))
        clear KN KV b0 b1 b2 b3 m2 m9
        go_wp2_with fail
        go_ret
        exact ⟨by rw [HE.out]; rfl, HW0.out.trans (HB3.out.mono HW0.out.size)⟩
        
      · have u1 : decide (x.p.fr < 0) = false := decide_eq_false h1
        by_cases h2 : 3 * f + 1 ≤ x.p.fr
        · have HE := Lib.hid (parts_no1 (all_far (p := partS m.m.vw f n) HX.out (decide_and_no (by omega))))
          have u2 : decide (3 * f + 1 ≤ x.p.fr) = true := decide_eq_true h2
          clear h1 h2
          refine wp_region_quiet_below (by kernel_rfl) (by kernel_rfl) ?_
          refine wq_out ?_
          iterate 7 (refine wq_do (by kernel_rfl) (fun K hK => ?_); go_simp; refine hK _ ?_; clear hK K)
          refine wq_do (by kernel_rfl) (fun K hK => ?_)
          go_simp
          apply Exists.intro
          refine ⟨fun a => ?_, hK _ ?_⟩
          · exact KN a.d a.os
          clear hK K
          iterate 3 (refine wq_do (by kernel_rfl) (fun K hK => ?_); go_simp; refine hK _ ?_; clear hK K)
          iterate 14 (refine wq_skip (by kernel_rfl) ?_)
          iterate 2 (refine wq_do (by kernel_rfl) (fun K hK => ?_); go_simp; refine hK _ ?_; clear hK K)
          iterate 3 (refine wq_skip (by kernel_rfl) ?_)
          iterate 2 (refine wq_do (by kernel_rfl) (fun K hK => ?_); go_simp; refine hK _ ?_; clear hK K)
          iterate 3 (refine wq_skip (by kernel_rfl) ?_)
          iterate 2 (refine wq_do (by kernel_rfl) (fun K hK => ?_); go_simp; refine hK _ ?_; clear hK K)
          iterate 10 (refine wq_skip (by kernel_rfl) ?_)
          refine wq_do (by kernel_rfl) (fun K hK => ?_)
          go_simp
          refine hK _ ?_
          clear hK K
          refine wq_nil ?_
          intro _ hw'
          obtain ⟨⟨dq, osq⟩, hw''⟩ := hw'
          subst hw''
          have HB3 := Lib.hid (HB1.out.trans ((below_regrown w1 dq osq).mono HB1.out.size))
          clear KN KV b0 b1 b2 b3 m2 m9
          go_wp2_with fail
          go_ret
          exact ⟨by rw [HE.out]; rfl, HW0.out.trans (HB3.out.mono HW0.out.size)⟩
        · have u2 : decide (3 * f + 1 ≤ x.p.fr) = false := decide_eq_false h2
          by_cases hk0 : k = 0
          · have HK0 := Lib.hid hk0
            have hkd : decide (0 < k) = false := decide_eq_false (by omega)
            have hkn : ¬ 0 < k := by omega
            clear hk0
            by_cases h4 : x.p.sg < 0
            · have HE := Lib.hid (parts_no1 (all_far (p := partS m.m.vw f n) HX.out (decide_and_no (by omega))))
              have u4 : decide (x.p.sg < 0) = true := decide_eq_true h4
              clear h4
              refine wp_region_quiet_below (by kernel_rfl) (by kernel_rfl) ?_
              refine wq_out ?_
              iterate 7 (refine wq_do (by kernel_rfl) (fun K hK => ?_); go_simp; refine hK _ ?_; clear hK K)
              refine wq_do (by kernel_rfl) (fun K hK => ?_)
              go_simp
              apply Exists.intro
              refine ⟨fun a => ?_, hK _ ?_⟩
              · exact KN a.d a.os
              clear hK K
              iterate 6 (refine wq_do (by kernel_rfl) (fun K hK => ?_); go_simp; refine hK _ ?_; clear hK K)
              iterate 10 (refine wq_skip (by kernel_rfl) ?_)
              iterate 8 (refine wq_do (by kernel_rfl) (fun K hK => ?_); go_simp; refine hK _ ?_; clear hK K)
              iterate 3 (refine wq_skip (by kernel_rfl) ?_)
              iterate 2 (refine wq_do (by kernel_rfl) (fun K hK => ?_); go_simp; refine hK _ ?_; clear hK K)
              iterate 10 (refine wq_skip (by kernel_rfl) ?_)
              refine wq_do (by kernel_rfl) (fun K hK => ?_)
              go_simp
              refine hK _ ?_
              clear hK K
              refine wq_nil ?_
              intro _ hw'
              obtain ⟨⟨dq, osq⟩, hw''⟩ := hw'
              subst hw''
              have HB3 := Lib.hid (HB1.out.trans ((below_regrown w1 dq osq).mono HB1.out.size))
              clear KN KV b0 b1 b2 b3 m2 m9
              go_wp2_with fail
              go_ret
              exact ⟨by rw [HE.out]; rfl, HW0.out.trans (HB3.out.mono HW0.out.size)⟩
            · have u4 : decide (x.p.sg < 0) = false := decide_eq_false h4
              by_cases h5 : 1099511627776 ≤ x.p.sg
              · have HE := Lib.hid (parts_no1 (all_far (p := partS m.m.vw f n) HX.out (decide_and_no (by omega))))
                have u5 : decide ((1099511627776 : Int) ≤ x.p.sg) = true := decide_eq_true h5
                clear h4 h5
                refine wp_region_quiet_below (by kernel_rfl) (by kernel_rfl) ?_
                refine wq_out ?_
                iterate 7 (refine wq_do (by kernel_rfl) (fun K hK => ?_); go_simp; refine hK _ ?_; clear hK K)
                refine wq_do (by kernel_rfl) (fun K hK => ?_)
                go_simp
                apply Exists.intro
                refine ⟨fun a => ?_, hK _ ?_⟩
                · exact KN a.d a.os
                clear hK K
                iterate 6 (refine wq_do (by kernel_rfl) (fun K hK => ?_); go_simp; refine hK _ ?_; clear hK K)
                iterate 10 (refine wq_skip (by kernel_rfl) ?_)
                iterate 13 (refine wq_do (by kernel_rfl) (fun K hK => ?_); go_simp; refine hK _ ?_; clear hK K)
                iterate 10 (refine wq_skip (by kernel_rfl) ?_)
                refine wq_do (by kernel_rfl) (fun K hK => ?_)
                go_simp
                refine hK _ ?_
                clear hK K
                refine wq_nil ?_
                intro _ hw'
                obtain ⟨⟨dq, osq⟩, hw''⟩ := hw'
                subst hw''
                have HB3 := Lib.hid (HB1.out.trans ((below_regrown w1 dq osq).mono HB1.out.size))
                clear KN KV b0 b1 b2 b3 m2 m9
                go_wp2_with fail
                go_ret
                exact ⟨by rw [HE.out]; rfl, HW0.out.trans (HB3.out.mono HW0.out.size)⟩
              · have u5 : decide ((1099511627776 : Int) ≤ x.p.sg) = false := decide_eq_false h5
                cases hv : leavesS m.m.vw x.p.vs x.p.cs f n
                · have HE := Lib.hid (parts_no1 (all_far (p := partS m.m.vw f n) HX.out (by unfold partS; rw [hv, Bool.and_false])))
                  rw [hv] at KV
                  clear h4 h5 hv
                  refine wp_region_quiet_below (by kernel_rfl) (by kernel_rfl) ?_
                  refine wq_out ?_
                  iterate 7 (refine wq_do (by kernel_rfl) (fun K hK => ?_); go_simp; refine hK _ ?_; clear hK K)
                  refine wq_do (by kernel_rfl) (fun K hK => ?_)
                  go_simp
                  apply Exists.intro
                  refine ⟨fun a => ?_, hK _ ?_⟩
                  · exact KN a.d a.os
                  clear hK K
                  iterate 6 (refine wq_do (by kernel_rfl) (fun K hK => ?_); go_simp; refine hK _ ?_; clear hK K)
                  iterate 10 (refine wq_skip (by kernel_rfl) ?_)
                  iterate 21 (refine wq_do (by kernel_rfl) (fun K hK => ?_); go_simp; refine hK _ ?_; clear hK K)
                  refine wq_do (by kernel_rfl) (fun K hK => ?_)
                  go_simp
                  apply Exists.intro
                  refine ⟨fun a => ?_, hK _ ?_⟩
                  · exact KV a.d a.os
                  clear hK K
                  iterate 2 (refine wq_do (by kernel_rfl) (fun K hK => ?_); go_simp; refine hK _ ?_; clear hK K)
                  refine wq_nil ?_
                  intro _ hw'
                  obtain ⟨⟨dq, osq⟩, hw''⟩ := hw'
                  subst hw''
                  have HB3 := Lib.hid (HB1.out.trans ((below_regrown w1 dq osq).mono HB1.out.size))
                  clear KN KV b0 b1 b2 b3 m2 m9
                  go_wp2_with fail
                  go_ret
                  exact ⟨by rw [HE.out]; rfl, HW0.out.trans (HB3.out.mono HW0.out.size)⟩
                · have HE := Lib.hid (show (m.m.ps.take (k + 1)).all (partS m.m.vw f n) = true by rw [all_next HX.out, HS.out.all]; unfold partS; rw [hv, decide_eq_true (by omega)]; rfl)
                  have HU := Lib.hid (show riseP m.m.ps = riseP (m.m.ps.drop (k + 1 - 1)) by rw [HK0.out]; rfl)
                  rw [hv] at KV
                  clear h4 h5 hv
                  refine wp_region_quiet_below (by kernel_rfl) (by kernel_rfl) ?_
                  refine wq_out ?_
                  iterate 7 (refine wq_do (by kernel_rfl) (fun K hK => ?_); go_simp; refine hK _ ?_; clear hK K)
                  refine wq_do (by kernel_rfl) (fun K hK => ?_)
                  go_simp
                  apply Exists.intro
                  refine ⟨fun a => ?_, hK _ ?_⟩
                  · exact KN a.d a.os
                  clear hK K
                  iterate 6 (refine wq_do (by kernel_rfl) (fun K hK => ?_); go_simp; refine hK _ ?_; clear hK K)
                  iterate 10 (refine wq_skip (by kernel_rfl) ?_)
                  iterate 21 (refine wq_do (by kernel_rfl) (fun K hK => ?_); go_simp; refine hK _ ?_; clear hK K)
                  refine wq_do (by kernel_rfl) (fun K hK => ?_)
                  go_simp
                  apply Exists.intro
                  refine ⟨fun a => ?_, hK _ ?_⟩
                  · exact KV a.d a.os
                  clear hK K
                  iterate 2 (refine wq_do (by kernel_rfl) (fun K hK => ?_); go_simp; refine hK _ ?_; clear hK K)
                  refine wq_nil ?_
                  intro _ hw'
                  obtain ⟨⟨dq, osq⟩, hw''⟩ := hw'
                  subst hw''
                  have HB3 := Lib.hid (HB1.out.trans ((below_regrown w1 dq osq).mono HB1.out.size))
                  clear KN KV b0 b1 b2 b3 m2 m9
                  go_wp2_with fail
                  go_roundw
                  case rel => exact ⟨k + 1, by go_num, by omega, HB3.out, HE.out, HU.out⟩
                  case measure => simp [intOf]; omega
          · obtain ⟨j, rfl⟩ : ∃ j, k = j + 1 := ⟨k - 1, by omega⟩
            have hjL : j < L.length := by omega
            obtain ⟨_, he, y0, _, _, _⟩ := four_at (HHL.out.below HB1.out (Nat.le_refl _)) hjL
            rw [hA] at he
            cases he
            obtain ⟨y, hy⟩ : ∃ y, L[j] = y := ⟨_, rfl⟩
            rw [hy] at y0
            have y0 := cell_regrown y0
            have HN := Lib.hid (show riseP (m.m.ps.drop j) = (decide (y.p.fr < x.p.fr) && riseP (m.m.ps.drop (j + 1))) from riseP_next (by
              have hjm : j < m.m.ps.length := by omega
              have e1 : m.m.ps[j]? = some y.p := by rw [← HLc.out, List.getElem?_map, List.getElem?_eq_getElem hjL, hy]; rfl
              have e2 := HX.out
              rw [List.getElem?_eq_getElem hjm] at e1
              rw [List.getElem?_eq_getElem hlt] at e2
              rw [List.drop_eq_getElem_cons hjm, List.drop_eq_getElem_cons hlt, Option.some.inj e1, Option.some.inj e2]))
            have HI := Lib.hid (show riseP m.m.ps = riseP (m.m.ps.drop j) from HS.out.up)
            clear hy hk0
            have hj1 : IntKind.i64.wrap (j : Int) = (j : Int) := IntWalk.i64_in _ (by omega)
            have hj2 : 0 ≤ (j : Int) + 1 := by omega
            have hj3 : ((j : Int) + 1).toNat = j + 1 := by omega
            have hj4 : (j : Int) + 1 < m.m.ps.length := by omega
            have hj5 : decide ((0 : Int) < (j : Int) + 1) = true := decide_eq_true (by omega)
            have hj6 : decide (0 < j + 1) = true := decide_eq_true (by omega)
            have hja : (0 : Int) ≤ (j : Int) := by omega
            have hjb : (j : Int) < m.m.ps.length := by omega
            by_cases h3 : x.p.fr ≤ y.p.fr
            · have HE := Lib.hid (parts_no2 (view := m.m.vw) (f := f) (n := n) (show riseP m.m.ps = false by rw [HI.out, HN.out, decide_eq_false (by omega)]; rfl))
              have u3 : decide (x.p.fr ≤ y.p.fr) = true := decide_eq_true h3
              clear h1 h2 h3
              refine wp_region_quiet_below (by kernel_rfl) (by kernel_rfl) ?_
              refine wq_out ?_
              iterate 7 (refine wq_do (by kernel_rfl) (fun K hK => ?_); go_simp; refine hK _ ?_; clear hK K)
              refine wq_do (by kernel_rfl) (fun K hK => ?_)
              go_simp
              apply Exists.intro
              refine ⟨fun a => ?_, hK _ ?_⟩
              · exact KN a.d a.os
              clear hK K
              iterate 19 (refine wq_do (by kernel_rfl) (fun K hK => ?_); go_simp; refine hK _ ?_; clear hK K)
              iterate 3 (refine wq_skip (by kernel_rfl) ?_)
              iterate 2 (refine wq_do (by kernel_rfl) (fun K hK => ?_); go_simp; refine hK _ ?_; clear hK K)
              iterate 3 (refine wq_skip (by kernel_rfl) ?_)
              iterate 2 (refine wq_do (by kernel_rfl) (fun K hK => ?_); go_simp; refine hK _ ?_; clear hK K)
              iterate 10 (refine wq_skip (by kernel_rfl) ?_)
              refine wq_do (by kernel_rfl) (fun K hK => ?_)
              go_simp
              refine hK _ ?_
              clear hK K
              refine wq_nil ?_
              intro _ hw'
              obtain ⟨⟨dq, osq⟩, hw''⟩ := hw'
              subst hw''
              have HB3 := Lib.hid (HB1.out.trans ((below_regrown w1 dq osq).mono HB1.out.size))
              clear KN KV b0 b1 b2 b3 m2 m9 y0
              go_wp2_with fail
              go_ret
              exact ⟨by rw [HE.out]; rfl, HW0.out.trans (HB3.out.mono HW0.out.size)⟩
            · have u3 : decide (x.p.fr ≤ y.p.fr) = false := decide_eq_false h3
              have HU := Lib.hid (show riseP m.m.ps = riseP (m.m.ps.drop (j + 1 + 1 - 1)) by rw [HI.out, HN.out, decide_eq_true (by omega), Bool.true_and]; rfl)
              by_cases h4 : x.p.sg < 0
              · have HE := Lib.hid (parts_no1 (all_far (p := partS m.m.vw f n) HX.out (decide_and_no (by omega))))
                have u4 : decide (x.p.sg < 0) = true := decide_eq_true h4
                clear h4
                refine wp_region_quiet_below (by kernel_rfl) (by kernel_rfl) ?_
                refine wq_out ?_
                iterate 7 (refine wq_do (by kernel_rfl) (fun K hK => ?_); go_simp; refine hK _ ?_; clear hK K)
                refine wq_do (by kernel_rfl) (fun K hK => ?_)
                go_simp
                apply Exists.intro
                refine ⟨fun a => ?_, hK _ ?_⟩
                · exact KN a.d a.os
                clear hK K
                iterate 24 (refine wq_do (by kernel_rfl) (fun K hK => ?_); go_simp; refine hK _ ?_; clear hK K)
                iterate 3 (refine wq_skip (by kernel_rfl) ?_)
                iterate 2 (refine wq_do (by kernel_rfl) (fun K hK => ?_); go_simp; refine hK _ ?_; clear hK K)
                iterate 10 (refine wq_skip (by kernel_rfl) ?_)
                refine wq_do (by kernel_rfl) (fun K hK => ?_)
                go_simp
                refine hK _ ?_
                clear hK K
                refine wq_nil ?_
                intro _ hw'
                obtain ⟨⟨dq, osq⟩, hw''⟩ := hw'
                subst hw''
                have HB3 := Lib.hid (HB1.out.trans ((below_regrown w1 dq osq).mono HB1.out.size))
                clear KN KV b0 b1 b2 b3 m2 m9 y0
                go_wp2_with fail
                go_ret
                exact ⟨by rw [HE.out]; rfl, HW0.out.trans (HB3.out.mono HW0.out.size)⟩
              · have u4 : decide (x.p.sg < 0) = false := decide_eq_false h4
                by_cases h5 : 1099511627776 ≤ x.p.sg
                · have HE := Lib.hid (parts_no1 (all_far (p := partS m.m.vw f n) HX.out (decide_and_no (by omega))))
                  have u5 : decide ((1099511627776 : Int) ≤ x.p.sg) = true := decide_eq_true h5
                  clear h4 h5
                  refine wp_region_quiet_below (by kernel_rfl) (by kernel_rfl) ?_
                  refine wq_out ?_
                  iterate 7 (refine wq_do (by kernel_rfl) (fun K hK => ?_); go_simp; refine hK _ ?_; clear hK K)
                  refine wq_do (by kernel_rfl) (fun K hK => ?_)
                  go_simp
                  apply Exists.intro
                  refine ⟨fun a => ?_, hK _ ?_⟩
                  · exact KN a.d a.os
                  clear hK K
                  iterate 29 (refine wq_do (by kernel_rfl) (fun K hK => ?_); go_simp; refine hK _ ?_; clear hK K)
                  iterate 10 (refine wq_skip (by kernel_rfl) ?_)
                  refine wq_do (by kernel_rfl) (fun K hK => ?_)
                  go_simp
                  refine hK _ ?_
                  clear hK K
                  refine wq_nil ?_
                  intro _ hw'
                  obtain ⟨⟨dq, osq⟩, hw''⟩ := hw'
                  subst hw''
                  have HB3 := Lib.hid (HB1.out.trans ((below_regrown w1 dq osq).mono HB1.out.size))
                  clear KN KV b0 b1 b2 b3 m2 m9 y0
                  go_wp2_with fail
                  go_ret
                  exact ⟨by rw [HE.out]; rfl, HW0.out.trans (HB3.out.mono HW0.out.size)⟩
                · have u5 : decide ((1099511627776 : Int) ≤ x.p.sg) = false := decide_eq_false h5
                  cases hv : leavesS m.m.vw x.p.vs x.p.cs f n
                  · have HE := Lib.hid (parts_no1 (all_far (p := partS m.m.vw f n) HX.out (by unfold partS; rw [hv, Bool.and_false])))
                    rw [hv] at KV
                    clear h4 h5 hv
                    refine wp_region_quiet_below (by kernel_rfl) (by kernel_rfl) ?_
                    refine wq_out ?_
                    iterate 7 (refine wq_do (by kernel_rfl) (fun K hK => ?_); go_simp; refine hK _ ?_; clear hK K)
                    refine wq_do (by kernel_rfl) (fun K hK => ?_)
                    go_simp
                    apply Exists.intro
                    refine ⟨fun a => ?_, hK _ ?_⟩
                    · exact KN a.d a.os
                    clear hK K
                    iterate 37 (refine wq_do (by kernel_rfl) (fun K hK => ?_); go_simp; refine hK _ ?_; clear hK K)
                    refine wq_do (by kernel_rfl) (fun K hK => ?_)
                    go_simp
                    apply Exists.intro
                    refine ⟨fun a => ?_, hK _ ?_⟩
                    · exact KV a.d a.os
                    clear hK K
                    iterate 2 (refine wq_do (by kernel_rfl) (fun K hK => ?_); go_simp; refine hK _ ?_; clear hK K)
                    refine wq_nil ?_
                    intro _ hw'
                    obtain ⟨⟨dq, osq⟩, hw''⟩ := hw'
                    subst hw''
                    have HB3 := Lib.hid (HB1.out.trans ((below_regrown w1 dq osq).mono HB1.out.size))
                    clear KN KV b0 b1 b2 b3 m2 m9 y0
                    go_wp2_with fail
                    go_ret
                    exact ⟨by rw [HE.out]; rfl, HW0.out.trans (HB3.out.mono HW0.out.size)⟩
                  · have HE := Lib.hid (show (m.m.ps.take (j + 1 + 1)).all (partS m.m.vw f n) = true by rw [all_next HX.out, HS.out.all]; unfold partS; rw [hv, decide_eq_true (by omega)]; rfl)

                    rw [hv] at KV
                    clear h4 h5 hv
                    refine wp_region_quiet_below (by kernel_rfl) (by kernel_rfl) ?_
                    refine wq_out ?_
                    iterate 7 (refine wq_do (by kernel_rfl) (fun K hK => ?_); go_simp; refine hK _ ?_; clear hK K)
                    refine wq_do (by kernel_rfl) (fun K hK => ?_)
                    go_simp
                    apply Exists.intro
                    refine ⟨fun a => ?_, hK _ ?_⟩
                    · exact KN a.d a.os
                    clear hK K
                    iterate 37 (refine wq_do (by kernel_rfl) (fun K hK => ?_); go_simp; refine hK _ ?_; clear hK K)
                    refine wq_do (by kernel_rfl) (fun K hK => ?_)
                    go_simp
                    apply Exists.intro
                    refine ⟨fun a => ?_, hK _ ?_⟩
                    · exact KV a.d a.os
                    clear hK K
                    iterate 2 (refine wq_do (by kernel_rfl) (fun K hK => ?_); go_simp; refine hK _ ?_; clear hK K)
                    refine wq_nil ?_
                    intro _ hw'
                    obtain ⟨⟨dq, osq⟩, hw''⟩ := hw'
                    subst hw''
                    have HB3 := Lib.hid (HB1.out.trans ((below_regrown w1 dq osq).mono HB1.out.size))
                    clear KN KV b0 b1 b2 b3 m2 m9 y0
                    go_wp2_with fail
                    go_roundw
                    case rel => exact ⟨j + 1 + 1, by go_num, by omega, HB3.out, HE.out, HU.out⟩
                    case measure => simp [intOf]; omega
    · have HE := Lib.hid (show partsS m.m.vw m.m.ps f n = true by
        have h1 := HS.out.all
        rw [List.take_of_length_le (by omega)] at h1
        unfold partsS
        rw [h1, HS.out.up, riseP_last (by omega), decide_eq_true HLen.out]
        rfl)
      have HLo := Lib.hid HS.out.low
      clear HS
      go_wp2_with fail
      go_ret
      exact ⟨by rw [HE.out]; rfl, HW0.out.trans (HLo.out.mono HW0.out.size)⟩
end Go.Proofs.YtbegjadohamkkaaGreat
