/- The contract of msgs.partsForm. -/
import Derived.Test.YtbegjadohamkkaaGreatOMsgChange
import Derived.Test.YtbegjadohamkkaaGreatOS6
namespace Go.Proofs.YtbegjadohamkkaaGreat
open Go.RowKit Go.Sort

theorem four_agrees {w : World} {g : Nat} {x : Ps} (h : Blk w g 73 #[.int .i64 x.p.fr, .slice x.A1 x.p.vs.length x.c1, .slice x.A2 x.p.cs.length x.c2, .int .i64 x.p.sg]) :
    (∀ d os, (grow (redrawn w d) os).cell? ⟨g, 0, none⟩ = some (.int .i64 x.p.fr)) ∧ (∀ d os, (grow (redrawn w d) os).cell? ⟨g, 1, none⟩ = some (.slice x.A1 x.p.vs.length x.c1)) ∧ (∀ d os, (grow (redrawn w d) os).cell? ⟨g, 2, none⟩ = some (.slice x.A2 x.p.cs.length x.c2)) ∧
      (∀ d os, (grow (redrawn w d) os).cell? ⟨g, 3, none⟩ = some (.int .i64 x.p.sg)) :=
  ⟨cell_regrown (h.cell 0), cell_regrown (h.cell 1), cell_regrown (h.cell 2), cell_regrown (h.cell 3)⟩
set_option maxHeartbeats 8000000 in
set_option maxRecDepth 100000 in
theorem mparts_loop {w : World} {A : Option Addr} {c : Nat} {L : List Ps} (hL : Has w w.heap.size A (L.flatMap Ps.cells)) (hLI : ∀ x ∈ L, x.In w w.heap.size) (hsh : ∀ x ∈ L, x.p.Short) (view f n : Int) (hvw : 1 ≤ view ∧ view ≤ 12) (hf : 1 ≤ f ∧ f ≤ 4) :
    Calls Tryz.prog 134 #[.int .i64 view, .slice A L.length c, .int .i64 f, .int .i64 n] w fun e w' => e = .returned (.bool (partsS view (L.map Ps.p) f n)) ∧ Below w.heap.size w w' := by
  have HQ := Lib.hid (bquorum_any f)
  rw [quorumS_in hf.1 hf.2] at HQ
  by_cases hlen : (L.length : Int) = 2 * f + 1
  case neg =>
    have HE := Lib.hid (parts_no0 (view := view) (l := L.map Ps.p) (n := n) (f := f) (by simpa using hlen))
    have hne : ((L.length : Int) != 2 * f + 1) = true := by simpa using hlen
    rw [HE.out]
    clear hL hLI hsh hvw hf hlen
    go_enter Tryz.func134, Tryz.ntmps134
    go_wp2_with fail
    refine (HQ.out _).mono ?_
    rintro e w1 ⟨rfl, rfl⟩
    go_wp2_with fail
    go_ret
    exact ⟨rfl, Below.refl _ _⟩
  have hne : ((L.length : Int) != 2 * f + 1) = false := by simpa using hlen
  have HLen := Lib.hid hlen
  have hl9 : L.length ≤ 9 := by omega
  have HHL := Lib.hid hL
  have HLI := Lib.hid hLI
  have HSh := Lib.hid hsh
  have HVW := Lib.hid hvw
  have HIN := Lib.hid (fun (p : Int) (w : World) => (misnode p hf.1 hf.2 w).mono (R' := fun e w' => e = .returned (.bool (isNodeS p f)) ∧ Below w.heap.size w w') (fun e w' h => ⟨h.1, by rw [h.2]; exact Below.refl _ _⟩))
  have HIS := Lib.hid (fun (p : Int) (w : World) => (misseal p w).mono (R' := fun e w' => e = .returned (.bool (decide (0 ≤ p ∧ p < 1099511627776))) ∧ Below w.heap.size w w') (fun e w' h => ⟨h.1, by rw [h.2]; exact Below.refl _ _⟩))
  have HL0 := Lib.hid (show PaSt w (L.map Ps.p) view f n 0 w from ⟨Below.refl _ _, rfl, rfl⟩)
  clear hL hLI hsh hvw hf hlen
  go_enter Tryz.func134, Tryz.ntmps134
  go_wp2_with fail
  refine (HQ.out _).mono ?_
  rintro e w1 ⟨rfl, rfl⟩
  go_wp2_with fail
  go_loopw [18] (fun y wr => ∃ k : Nat, y = .int .i64 k ∧ k ≤ L.length ∧ Hid (PaSt w (L.map Ps.p) view f n k wr)) (fun y _ => L.length - (intOf y).toNat)
  case atStart => exact ⟨0, rfl, Nat.zero_le _, HL0.out⟩
  case round =>
    obtain ⟨k, rfl, hk, HS⟩ := hrel
    by_cases hlt : k < L.length
    · obtain ⟨ad, rfl, c0, c1, c2, c3⟩ := four_at (HHL.out.below HS.out.low (Nat.le_refl _)) hlt
      obtain ⟨x, hx⟩ : ∃ x, L[k] = x := ⟨_, rfl⟩
      rw [hx] at c0 c1 c2 c3
      have hxm : x ∈ L := hx ▸ List.getElem_mem hlt
      have HX := Lib.hid (show (L.map Ps.p)[k]? = some x.p by rw [List.getElem?_map, List.getElem?_eq_getElem hlt, hx]; rfl)
      have HB1 := Lib.hid (HS.out.low.alloc HS.out.low.size (.cells #[.int .i64 x.p.fr, .slice x.A1 x.p.vs.length x.c1, .slice x.A2 x.p.cs.length x.c2, .int .i64 x.p.sg] 73))
      have HBk := Lib.hid (Blk.new wr 73 #[.int .i64 x.p.fr, .slice x.A1 x.p.vs.length x.c1, .slice x.A2 x.p.cs.length x.c2, .int .i64 x.p.sg])
      have HIx := Lib.hid (fun (W : World) (hW : RowKit.Below w.heap.size w W) => ((HLI.out x hxm).reads (Reads.below hW (Nat.le_refl _))).reads (Reads.more (B' := W.heap.size) hW.size))
      have HSx := Lib.hid (HSh.out x hxm)
      clear hx hxm
      go_wp2_with fail
      clear c0 c1 c2 c3
      obtain ⟨w1, hw1⟩ : ∃ w1, wr.alloc (.cells #[.int .i64 x.p.fr, .slice x.A1 x.p.vs.length x.c1, .slice x.A2 x.p.cs.length x.c2, .int .i64 x.p.sg] 73) = w1 := ⟨_, rfl⟩
      obtain ⟨g1, hg1⟩ : ∃ g1, wr.heap.size = g1 := ⟨_, rfl⟩
      rw [hw1] at HB1 HBk ⊢
      rw [hg1] at HBk ⊢
      clear hw1 hg1
      obtain ⟨b0, b1, b2, b3⟩ := four_agrees HBk.out
      have KI := fun d os => Calls.regrown_of (HIN.out x.p.fr (grow (redrawn w1 d) os))
      have KS := fun d os => Calls.regrown_of (HIS.out x.p.sg (grow (redrawn w1 d) os))
      cases hi : isNodeS x.p.fr f
      · have HE := Lib.hid (parts_no1 (all_far (p := partS view f n) HX.out (decide_and_no (by simp [isNodeS] at hi; omega))))
        rw [hi] at KI
        clear hi
        refine wp_region_quiet_below (by kernel_rfl) (by kernel_rfl) ?_
        refine wq_out ?_
        iterate 3 (refine wq_do (by kernel_rfl) (fun K hK => ?_); go_simp; refine hK _ ?_; clear hK K)
        refine wq_do (by kernel_rfl) (fun K hK => ?_)
        go_simp
        apply Exists.intro
        refine ⟨fun a => ?_, hK _ ?_⟩
        · exact KI a.d a.os
        clear hK K
        iterate 2 (refine wq_do (by kernel_rfl) (fun K hK => ?_); go_simp; refine hK _ ?_; clear hK K)
        iterate 4 (refine wq_skip (by kernel_rfl) ?_)
        iterate 2 (refine wq_do (by kernel_rfl) (fun K hK => ?_); go_simp; refine hK _ ?_; clear hK K)
        iterate 13 (refine wq_skip (by kernel_rfl) ?_)
        refine wq_do (by kernel_rfl) (fun K hK => ?_)
        go_simp
        refine hK _ ?_
        clear hK K
        refine wq_nil ?_
        intro _ hw'
        obtain ⟨⟨dq, osq⟩, hw''⟩ := hw'
        subst hw''
        have HB3 := Lib.hid (HB1.out.trans ((below_regrown w1 dq osq).mono HB1.out.size))
        clear KI KS b0 b1 b2 b3
        go_wp2_with fail
        go_ret
        exact ⟨by rw [HE.out]; rfl, HB3.out⟩
      · have hi2 : 0 ≤ x.p.fr ∧ x.p.fr < 3 * f + 1 := by simp [isNodeS] at hi; omega
        rw [hi] at KI
        clear hi
        cases hs : decide (0 ≤ x.p.sg ∧ x.p.sg < 1099511627776)
        · have HE := Lib.hid (parts_no1 (all_far (p := partS view f n) HX.out (decide_and_no (by have := of_decide_eq_false hs; omega))))
          rw [hs] at KS
          clear hs hi2
          refine wp_region_quiet_below (by kernel_rfl) (by kernel_rfl) ?_
          refine wq_out ?_
          iterate 3 (refine wq_do (by kernel_rfl) (fun K hK => ?_); go_simp; refine hK _ ?_; clear hK K)
          refine wq_do (by kernel_rfl) (fun K hK => ?_)
          go_simp
          apply Exists.intro
          refine ⟨fun a => ?_, hK _ ?_⟩
          · exact KI a.d a.os
          clear hK K
          iterate 4 (refine wq_do (by kernel_rfl) (fun K hK => ?_); go_simp; refine hK _ ?_; clear hK K)
          refine wq_do (by kernel_rfl) (fun K hK => ?_)
          go_simp
          apply Exists.intro
          refine ⟨fun a => ?_, hK _ ?_⟩
          · exact KS a.d a.os
          clear hK K
          iterate 3 (refine wq_do (by kernel_rfl) (fun K hK => ?_); go_simp; refine hK _ ?_; clear hK K)
          iterate 13 (refine wq_skip (by kernel_rfl) ?_)
          refine wq_do (by kernel_rfl) (fun K hK => ?_)
          go_simp
          refine hK _ ?_
          clear hK K
          refine wq_nil ?_
          intro _ hw'
          obtain ⟨⟨dq, osq⟩, hw''⟩ := hw'
          subst hw''
          have HB3 := Lib.hid (HB1.out.trans ((below_regrown w1 dq osq).mono HB1.out.size))
          clear KI KS b0 b1 b2 b3
          go_wp2_with fail
          go_ret
          exact ⟨by rw [HE.out]; rfl, HB3.out⟩
        · have HOK := Lib.hid (show decide (0 ≤ x.p.fr ∧ x.p.fr < 3 * f + 1 ∧ 0 ≤ x.p.sg ∧ x.p.sg < 1099511627776) = true from decide_eq_true (by have := of_decide_eq_true hs; omega))
          rw [hs] at KS
          clear hs hi2
          by_cases hk0 : k = 0
          · have HU := Lib.hid (show riseP (L.map Ps.p) = riseP ((L.map Ps.p).drop (k + 1 - 1)) by rw [hk0]; rfl)
            have hkd : decide (0 < k) = false := decide_eq_false (by omega)
            have hkn : ¬ 0 < k := by omega
            clear hk0
            refine wp_region_quiet_below (by kernel_rfl) (by kernel_rfl) ?_
            refine wq_out ?_
            iterate 3 (refine wq_do (by kernel_rfl) (fun K hK => ?_); go_simp; refine hK _ ?_; clear hK K)
            refine wq_do (by kernel_rfl) (fun K hK => ?_)
            go_simp
            apply Exists.intro
            refine ⟨fun a => ?_, hK _ ?_⟩
            · exact KI a.d a.os
            clear hK K
            iterate 4 (refine wq_do (by kernel_rfl) (fun K hK => ?_); go_simp; refine hK _ ?_; clear hK K)
            refine wq_do (by kernel_rfl) (fun K hK => ?_)
            go_simp
            apply Exists.intro
            refine ⟨fun a => ?_, hK _ ?_⟩
            · exact KS a.d a.os
            clear hK K
            iterate 6 (refine wq_do (by kernel_rfl) (fun K hK => ?_); go_simp; refine hK _ ?_; clear hK K)
            iterate 9 (refine wq_skip (by kernel_rfl) ?_)
            iterate 2 (refine wq_do (by kernel_rfl) (fun K hK => ?_); go_simp; refine hK _ ?_; clear hK K)
            refine wq_nil ?_
            intro _ hw'
            obtain ⟨⟨dq, osq⟩, hw''⟩ := hw'
            subst hw''
            have HB3 := Lib.hid (HB1.out.trans ((below_regrown w1 dq osq).mono HB1.out.size))
            obtain ⟨w3, hw3⟩ : ∃ w3, grow (redrawn w1 dq) osq = w3 := ⟨_, rfl⟩
            have f1 : w3.cell? ⟨g1, 1, none⟩ = some (.slice x.A1 x.p.vs.length x.c1) := by rw [← hw3]; exact b1 dq osq
            have f2 : w3.cell? ⟨g1, 2, none⟩ = some (.slice x.A2 x.p.cs.length x.c2) := by rw [← hw3]; exact b2 dq osq
            rw [hw3] at HB3 ⊢
            clear hw3 KI KS b0 b1 b2 b3
            have HC := Lib.hid (mchange_any (c1 := x.c1) (c3 := x.c2) (HIx.out _ HB3.out).vs HSx.out.vs (HIx.out _ HB3.out).cs HSx.out.cs HSx.out.each view f n)
            rw [← leavesS_in HVW.out] at HC
            cases hch : leavesS view x.p.vs x.p.cs f n
            · have HE := Lib.hid (parts_no1 (all_far (p := partS view f n) HX.out (by unfold partS; rw [hch, Bool.and_false])))
              rw [hch] at HC
              clear hch
              go_wp2_with fail
              refine HC.out.mono ?_
              rintro e w4 ⟨rfl, hb4⟩
              have HB4 := Lib.hid (HB3.out.trans (hb4.mono HB3.out.size))
              clear hb4
              go_wp2_with fail
              go_ret
              exact ⟨by rw [HE.out]; rfl, HB4.out⟩
            · have HE := Lib.hid (show ((L.map Ps.p).take (k + 1)).all (partS view f n) = true by rw [all_next HX.out, HS.out.all]; unfold partS; rw [hch, HOK.out]; rfl)
              rw [hch] at HC
              clear hch
              go_wp2_with fail
              refine HC.out.mono ?_
              rintro e w4 ⟨rfl, hb4⟩
              have HB4 := Lib.hid (HB3.out.trans (hb4.mono HB3.out.size))
              clear hb4
              go_wp2_with fail
              go_roundw
              case rel => exact ⟨k + 1, by go_num, by omega, HB4.out, HE.out, HU.out⟩
              case measure => simp [intOf]; omega
          · obtain ⟨j, rfl⟩ : ∃ j, k = j + 1 := ⟨k - 1, by omega⟩
            have hjl : j < L.length := by omega
            obtain ⟨_, he, y0, _, _, _⟩ := four_at (HHL.out.below HB1.out (Nat.le_refl _)) hjl
            cases he
            obtain ⟨y, hy⟩ : ∃ y, L[j] = y := ⟨_, rfl⟩
            rw [hy] at y0
            have HN := Lib.hid (show riseP ((L.map Ps.p).drop j) = (decide (y.p.fr < x.p.fr) && riseP ((L.map Ps.p).drop (j + 1))) from riseP_next (by
              have hjm : j < (L.map Ps.p).length := by simpa using hjl
              have hkm : j + 1 < (L.map Ps.p).length := by simpa using hlt
              have e2 := HX.out
              rw [List.getElem?_eq_getElem hkm] at e2
              rw [List.drop_eq_getElem_cons hjm, List.drop_eq_getElem_cons hkm, Option.some.inj e2, List.getElem_map, hy]))
            have HI := Lib.hid (show riseP (L.map Ps.p) = riseP ((L.map Ps.p).drop j) from HS.out.up)
            have y0 := cell_regrown y0
            clear hy hk0
            have hj1 : IntKind.i64.wrap (j : Int) = (j : Int) := IntWalk.i64_in _ (by omega)
            have hj2 : 0 ≤ (j : Int) + 1 := by omega
            have hj3 : ((j : Int) + 1).toNat = j + 1 := by omega
            have hj4 : (j : Int) + 1 < L.length := by omega
            have hj5 : decide ((0 : Int) < (j : Int) + 1) = true := decide_eq_true (by omega)
            have hj6 : decide (0 < j + 1) = true := decide_eq_true (by omega)
            have hja : (0 : Int) ≤ (j : Int) := by omega
            have hjb : (j : Int) < L.length := by omega
            by_cases h3 : x.p.fr ≤ y.p.fr
            · have HE := Lib.hid (parts_no2 (view := view) (f := f) (n := n) (show riseP (L.map Ps.p) = false by rw [HI.out, HN.out, decide_eq_false (by omega)]; rfl))
              have u3 : decide (x.p.fr ≤ y.p.fr) = true := decide_eq_true h3
              clear h3
              refine wp_region_quiet_below (by kernel_rfl) (by kernel_rfl) ?_
              refine wq_out ?_
              iterate 3 (refine wq_do (by kernel_rfl) (fun K hK => ?_); go_simp; refine hK _ ?_; clear hK K)
              refine wq_do (by kernel_rfl) (fun K hK => ?_)
              go_simp
              apply Exists.intro
              refine ⟨fun a => ?_, hK _ ?_⟩
              · exact KI a.d a.os
              clear hK K
              iterate 4 (refine wq_do (by kernel_rfl) (fun K hK => ?_); go_simp; refine hK _ ?_; clear hK K)
              refine wq_do (by kernel_rfl) (fun K hK => ?_)
              go_simp
              apply Exists.intro
              refine ⟨fun a => ?_, hK _ ?_⟩
              · exact KS a.d a.os
              clear hK K
              iterate 17 (refine wq_do (by kernel_rfl) (fun K hK => ?_); go_simp; refine hK _ ?_; clear hK K)
              refine wq_nil ?_
              intro _ hw'
              obtain ⟨⟨dq, osq⟩, hw''⟩ := hw'
              subst hw''
              have HB3 := Lib.hid (HB1.out.trans ((below_regrown w1 dq osq).mono HB1.out.size))
              clear KI KS b0 b1 b2 b3 y0
              go_wp2_with fail
              go_ret
              exact ⟨by rw [HE.out]; rfl, HB3.out⟩
            · have u3 : decide (x.p.fr ≤ y.p.fr) = false := decide_eq_false h3
              have HU := Lib.hid (show riseP (L.map Ps.p) = riseP ((L.map Ps.p).drop (j + 1 + 1 - 1)) by rw [HI.out, HN.out, decide_eq_true (by omega), Bool.true_and]; rfl)
              clear h3
              refine wp_region_quiet_below (by kernel_rfl) (by kernel_rfl) ?_
              refine wq_out ?_
              iterate 3 (refine wq_do (by kernel_rfl) (fun K hK => ?_); go_simp; refine hK _ ?_; clear hK K)
              refine wq_do (by kernel_rfl) (fun K hK => ?_)
              go_simp
              apply Exists.intro
              refine ⟨fun a => ?_, hK _ ?_⟩
              · exact KI a.d a.os
              clear hK K
              iterate 4 (refine wq_do (by kernel_rfl) (fun K hK => ?_); go_simp; refine hK _ ?_; clear hK K)
              refine wq_do (by kernel_rfl) (fun K hK => ?_)
              go_simp
              apply Exists.intro
              refine ⟨fun a => ?_, hK _ ?_⟩
              · exact KS a.d a.os
              clear hK K
              iterate 17 (refine wq_do (by kernel_rfl) (fun K hK => ?_); go_simp; refine hK _ ?_; clear hK K)
              refine wq_nil ?_
              intro _ hw'
              obtain ⟨⟨dq, osq⟩, hw''⟩ := hw'
              subst hw''
              have HB3 := Lib.hid (HB1.out.trans ((below_regrown w1 dq osq).mono HB1.out.size))
              obtain ⟨w3, hw3⟩ : ∃ w3, grow (redrawn w1 dq) osq = w3 := ⟨_, rfl⟩
              have f1 : w3.cell? ⟨g1, 1, none⟩ = some (.slice x.A1 x.p.vs.length x.c1) := by rw [← hw3]; exact b1 dq osq
              have f2 : w3.cell? ⟨g1, 2, none⟩ = some (.slice x.A2 x.p.cs.length x.c2) := by rw [← hw3]; exact b2 dq osq
              rw [hw3] at HB3 ⊢
              clear hw3 KI KS b0 b1 b2 b3 y0
              have HC := Lib.hid (mchange_any (c1 := x.c1) (c3 := x.c2) (HIx.out _ HB3.out).vs HSx.out.vs (HIx.out _ HB3.out).cs HSx.out.cs HSx.out.each view f n)
              rw [← leavesS_in HVW.out] at HC
              cases hch : leavesS view x.p.vs x.p.cs f n
              · have HE := Lib.hid (parts_no1 (all_far (p := partS view f n) HX.out (by unfold partS; rw [hch, Bool.and_false])))
                rw [hch] at HC
                clear hch
                go_wp2_with fail
                refine HC.out.mono ?_
                rintro e w4 ⟨rfl, hb4⟩
                have HB4 := Lib.hid (HB3.out.trans (hb4.mono HB3.out.size))
                clear hb4
                go_wp2_with fail
                go_ret
                exact ⟨by rw [HE.out]; rfl, HB4.out⟩
              · have HE := Lib.hid (show ((L.map Ps.p).take (j + 1 + 1)).all (partS view f n) = true by rw [all_next HX.out, HS.out.all]; unfold partS; rw [hch, HOK.out]; rfl)
                rw [hch] at HC
                clear hch
                go_wp2_with fail
                refine HC.out.mono ?_
                rintro e w4 ⟨rfl, hb4⟩
                have HB4 := Lib.hid (HB3.out.trans (hb4.mono HB3.out.size))
                clear hb4
                go_wp2_with fail
                go_roundw
                case rel => exact ⟨j + 1 + 1, by go_num, by omega, HB4.out, HE.out, HU.out⟩
                case measure => simp [intOf]; omega
    · have hkl : (L.map Ps.p).length ≤ k := by simp; omega
      have HE := Lib.hid (show partsS view (L.map Ps.p) f n = true by
        have h1 := HS.out.all
        rw [List.take_of_length_le hkl] at h1
        unfold partsS
        rw [h1, HS.out.up, riseP_last (by omega), decide_eq_true (by have := HLen.out; simpa using this)]
        rfl)
      go_wp2_with fail
      go_ret
      exact ⟨by rw [HE.out]; rfl, HS.out.low⟩
theorem mparts_any {w : World} {A : Option Addr} {c : Nat} {l : List Pt} (h : HasParts w w.heap.size A l) (hs : ∀ p ∈ l, p.Short) (view f n : Int) (hvw : 1 ≤ view ∧ view ≤ 12) (hf : 1 ≤ f ∧ f ≤ 4) :
    Calls Tryz.prog 134 #[.int .i64 view, .slice A l.length c, .int .i64 f, .int .i64 n] w fun e w' => e = .returned (.bool (partsS view l f n)) ∧ Below w.heap.size w w' := by
  obtain ⟨L, hLc, hL, hLI⟩ := h
  have hll : L.length = l.length := by rw [← hLc]; simp
  have h := mparts_loop (c := c) hL hLI (fun x hx => hs x.p (by rw [← hLc]; exact List.mem_map_of_mem hx)) view f n hvw hf
  rw [hLc, hll] at h
  exact h
end Go.Proofs.YtbegjadohamkkaaGreat
