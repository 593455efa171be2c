/- The contract of msgs.changeForm. -/
import Derived.Test.YtbegjadohamkkaaGreatOS6
import Derived.Test.YtbegjadohamkkaaGreatORefLeaves
import Derived.Test.YtbegjadohamkkaaGreatOS0
import Derived.IntWalk
namespace Go.Proofs.YtbegjadohamkkaaGreat
open Go.RowKit Go.Sort

/-- What a node begins a view with, the view's own range aside. -/
def changeS (view : Int) (vs : List Vt) (cs : List Ct) (f n : Int) : Bool := (risingS vs f && sealsS vs) && (cs.all (goodC view f n) && upS cs)
theorem leavesS_in {view : Int} (h : 1 ≤ view ∧ view ≤ 12) (vs : List Vt) (cs : List Ct) (f n : Int) : leavesS view vs cs f n = changeS view vs cs f n := by
  unfold leavesS changeS goodC
  rw [decide_eq_true h]
  simp [Bool.and_assoc]
theorem change_no0 {view : Int} {vs : List Vt} {cs : List Ct} {f n : Int} (h : (risingS vs f && sealsS vs) = false) : changeS view vs cs f n = false := by unfold changeS; rw [h]; rfl
theorem change_no1 {view : Int} {vs : List Vt} {cs : List Ct} {f n : Int} (h : cs.all (goodC view f n) = false) : changeS view vs cs f n = false := by unfold changeS; rw [h]; simp
theorem change_no2 {view : Int} {vs : List Vt} {cs : List Ct} {f n : Int} (h : upS cs = false) : changeS view vs cs f n = false := by unfold changeS; rw [h]; simp
theorem five_agrees {w : World} {g : Nat} {x : Cs} (h : Blk w g 25 #[.int .i64 x.c.vw, .int .i64 x.c.ins, .int .i64 x.c.sq, .slice x.A1 x.c.bt.length x.c1, .slice x.A2 x.c.vs.length x.c2]) :
    (∀ d os, (grow (redrawn w d) os).cell? ⟨g, 0, none⟩ = some (.int .i64 x.c.vw)) ∧ (∀ d os, (grow (redrawn w d) os).cell? ⟨g, 1, none⟩ = some (.int .i64 x.c.ins)) ∧ (∀ d os, (grow (redrawn w d) os).cell? ⟨g, 2, none⟩ = some (.int .i64 x.c.sq)) ∧
      (∀ d os, (grow (redrawn w d) os).cell? ⟨g, 3, none⟩ = some (.slice x.A1 x.c.bt.length x.c1)) ∧ (∀ d os, (grow (redrawn w d) os).cell? ⟨g, 4, none⟩ = some (.slice x.A2 x.c.vs.length x.c2)) :=
  ⟨cell_regrown (h.cell 0), cell_regrown (h.cell 1), cell_regrown (h.cell 2), cell_regrown (h.cell 3), cell_regrown (h.cell 4)⟩
set_option maxHeartbeats 4000000 in
set_option maxRecDepth 100000 in
theorem mchange_loop {w : World} {A1 A3 : Option Addr} {c1 c3 : Nat} {vs : List Vt} {L : List Cs} (hv : Has w w.heap.size A1 (voteCells vs)) (hvl : vs.length ≤ 1000000) (hL : Has w w.heap.size A3 (L.flatMap Cs.cells)) (hLI : ∀ x ∈ L, x.In w w.heap.size) (hcl : L.length ≤ 1000000)
    (hsh : ∀ x ∈ L, x.Short) (view f n : Int) :
    Calls Tryz.prog 133 #[.int .i64 view, .slice A1 vs.length c1, .slice A3 L.length c3, .int .i64 f, .int .i64 n] w fun e w' => e = .returned (.bool (changeS view vs (L.map Cs.c) f n)) ∧ Below w.heap.size w w' := by
  have KR := Lib.hid (mvotes_any (c := c1) hv hvl f)
  have HHL := Lib.hid hL
  have HLI := Lib.hid hLI
  have HSh := Lib.hid hsh
  clear hv hL hLI hsh
  cases hr : (risingS vs f && sealsS vs)
  · rw [hr] at KR
    have HE := Lib.hid (change_no0 (view := view) (cs := L.map Cs.c) (n := n) hr)
    clear hr
    go_enter Tryz.func133, Tryz.ntmps133
    go_wp2_with fail
    refine KR.out.mono ?_
    rintro e w' ⟨rfl, hb⟩
    go_wp2_with fail
    go_ret
    exact ⟨by rw [HE.out]; rfl, hb⟩
  have HRS := Lib.hid hr
  rw [hr] at KR
  clear hr
  go_enter Tryz.func133, Tryz.ntmps133
  go_wp2_with fail
  refine KR.out.mono ?_
  rintro e w0 ⟨rfl, hb0⟩
  have HL0 := Lib.hid (show LvSt w (L.map Cs.c) view f n 0 w0 from ⟨hb0, rfl, rfl⟩)
  clear KR hb0
  go_wp2_with fail
  go_loopw [19] (fun y wr => ∃ k : Nat, y = .int .i64 k ∧ k ≤ L.length ∧ Hid (LvSt w (L.map Cs.c) view f n k wr)) (fun y _ => L.length - (intOf y).toNat)
  case atStart => exact ⟨0, rfl, Nat.zero_le _, HL0.out⟩
  case round =>
    obtain ⟨k, rfl, hk, HS⟩ := hrel
    by_cases hlt : k < L.length
    · obtain ⟨ad, rfl, c0, c1', c2, c3', c4⟩ := five_at (HHL.out.below HS.out.low (Nat.le_refl _)) hlt
      obtain ⟨x, hx⟩ : ∃ x, L[k] = x := ⟨_, rfl⟩
      rw [hx] at c0 c1' c2 c3' c4
      have hxm : x ∈ L := hx ▸ List.getElem_mem hlt
      have HX := Lib.hid (show (L.map Cs.c)[k]? = some x.c by rw [List.getElem?_map, List.getElem?_eq_getElem hlt, hx]; rfl)
      have HB1 := Lib.hid (HS.out.low.alloc HS.out.low.size (.cells #[.int .i64 x.c.vw, .int .i64 x.c.ins, .int .i64 x.c.sq, .slice x.A1 x.c.bt.length x.c1, .slice x.A2 x.c.vs.length x.c2] 25))
      have HBk := Lib.hid (Blk.new wr 25 #[.int .i64 x.c.vw, .int .i64 x.c.ins, .int .i64 x.c.sq, .slice x.A1 x.c.bt.length x.c1, .slice x.A2 x.c.vs.length x.c2])
      have HIx := Lib.hid (fun (W : World) (hW : RowKit.Below w.heap.size w W) => ((HLI.out x hxm).reads (Reads.below hW (Nat.le_refl _))).reads (Reads.more (B' := W.heap.size) hW.size))
      have HSx := Lib.hid (HSh.out x hxm)
      clear hx hxm
      go_wp2_with fail
      clear c0 c1' c2 c3' c4
      obtain ⟨w1, hw1⟩ : ∃ w1, wr.alloc (.cells #[.int .i64 x.c.vw, .int .i64 x.c.ins, .int .i64 x.c.sq, .slice x.A1 x.c.bt.length x.c1, .slice x.A2 x.c.vs.length x.c2] 25) = w1 := ⟨_, rfl⟩
      obtain ⟨g1, hg1⟩ : ∃ g1, wr.heap.size = g1 := ⟨_, rfl⟩
      rw [hw1] at HB1 HBk ⊢
      rw [hg1] at HBk ⊢
      clear hw1 hg1
      obtain ⟨b0, b1, b2, b3, b4⟩ := five_agrees HBk.out
      have KC := fun d os => Calls.regrown_of (mcert_any x (HIx.out _ (HB1.out.trans ((below_regrown w1 d os).mono HB1.out.size))) HSx.out f n)
      by_cases hv : view ≤ x.c.vw
      · have HE := Lib.hid (change_no1 (vs := vs) (all_far (p := goodC view f n) HX.out (by unfold goodC; rw [decide_eq_false (by omega), Bool.and_false])))
        have t3 : decide (view ≤ x.c.vw) = true := decide_eq_true hv
        clear hv
        refine wp_region_quiet_below (by kernel_rfl) (by kernel_rfl) ?_
        refine wq_out ?_
        iterate 5 (refine wq_do (by kernel_rfl) (fun K hK => ?_); go_simp; refine hK _ ?_; clear hK K)
        iterate 5 (refine wq_skip (by kernel_rfl) ?_)
        iterate 2 (refine wq_do (by kernel_rfl) (fun K hK => ?_); go_simp; refine hK _ ?_; clear hK K)
        iterate 12 (refine wq_skip (by kernel_rfl) ?_)
        refine wq_do (by kernel_rfl) (fun K hK => ?_)
        go_simp
        refine hK _ ?_
        clear hK K
        refine wq_nil ?_
        intro _ hw'
        obtain ⟨⟨dq, osq⟩, hw''⟩ := hw'
        subst hw''
        have HB3 := Lib.hid (HB1.out.trans ((below_regrown w1 dq osq).mono HB1.out.size))
        clear KC b0 b1 b2 b3 b4
        go_wp2_with fail
        go_ret
        exact ⟨by rw [HE.out]; rfl, HB3.out⟩
      · have t3 : decide (view ≤ x.c.vw) = false := decide_eq_false hv
        cases hc : certS f n x.c
        · have HE := Lib.hid (change_no1 (vs := vs) (all_far (p := goodC view f n) HX.out (by unfold goodC; rw [hc]; rfl)))
          rw [hc] at KC
          clear hc hv
          refine wp_region_quiet_below (by kernel_rfl) (by kernel_rfl) ?_
          refine wq_out ?_
          iterate 8 (refine wq_do (by kernel_rfl) (fun K hK => ?_); go_simp; refine hK _ ?_; clear hK K)
          refine wq_do (by kernel_rfl) (fun K hK => ?_)
          go_simp
          apply Exists.intro
          refine ⟨fun a => ?_, hK _ ?_⟩
          · exact KC a.d a.os
          clear hK K
          iterate 3 (refine wq_do (by kernel_rfl) (fun K hK => ?_); go_simp; refine hK _ ?_; clear hK K)
          iterate 12 (refine wq_skip (by kernel_rfl) ?_)
          refine wq_do (by kernel_rfl) (fun K hK => ?_)
          go_simp
          refine hK _ ?_
          clear hK K
          refine wq_nil ?_
          intro _ hw'
          obtain ⟨⟨dq, osq⟩, hw''⟩ := hw'
          subst hw''
          have HB3 := Lib.hid (HB1.out.trans ((below_regrown w1 dq osq).mono HB1.out.size))
          clear KC b0 b1 b2 b3 b4
          go_wp2_with fail
          go_ret
          exact ⟨by rw [HE.out]; rfl, HB3.out⟩
        · have HE := Lib.hid (show ((L.map Cs.c).take (k + 1)).all (goodC view f n) = true by rw [all_next HX.out, HS.out.all]; unfold goodC; rw [hc, decide_eq_true (by omega)]; rfl)
          rw [hc] at KC
          clear hc hv
          by_cases hk0 : k = 0
          · have HU := Lib.hid (show upS (L.map Cs.c) = upS ((L.map Cs.c).drop (k + 1 - 1)) by rw [hk0]; rfl)
            have hkd : decide (0 < k) = false := decide_eq_false (by omega)
            have hkn : ¬ 0 < k := by omega
            clear hk0
            refine wp_region_quiet_below (by kernel_rfl) (by kernel_rfl) ?_
            refine wq_out ?_
            iterate 8 (refine wq_do (by kernel_rfl) (fun K hK => ?_); go_simp; refine hK _ ?_; clear hK K)
            refine wq_do (by kernel_rfl) (fun K hK => ?_)
            go_simp
            apply Exists.intro
            refine ⟨fun a => ?_, hK _ ?_⟩
            · exact KC a.d a.os
            clear hK K
            iterate 6 (refine wq_do (by kernel_rfl) (fun K hK => ?_); go_simp; refine hK _ ?_; clear hK K)
            iterate 8 (refine wq_skip (by kernel_rfl) ?_)
            iterate 2 (refine wq_do (by kernel_rfl) (fun K hK => ?_); go_simp; refine hK _ ?_; clear hK K)
            refine wq_nil ?_
            intro _ hw'
            obtain ⟨⟨dq, osq⟩, hw''⟩ := hw'
            subst hw''
            have HB3 := Lib.hid (HB1.out.trans ((below_regrown w1 dq osq).mono HB1.out.size))
            clear KC b0 b1 b2 b3 b4
            go_wp2_with fail
            go_roundw
            case rel => exact ⟨k + 1, by go_num, by omega, HB3.out, HE.out, HU.out⟩
            case measure => simp [intOf]; omega
          · obtain ⟨j, rfl⟩ : ∃ j, k = j + 1 := ⟨k - 1, by omega⟩
            have hjl : j < L.length := by omega
            obtain ⟨_, he, y0, y1, y2, y3, y4⟩ := five_at (HHL.out.below HB1.out (Nat.le_refl _)) hjl
            cases he
            obtain ⟨y, hy⟩ : ∃ y, L[j] = y := ⟨_, rfl⟩
            rw [hy] at y0 y1 y2 y3 y4
            have HN := Lib.hid (show upS ((L.map Cs.c).drop j) = (behindS y.c x.c && upS ((L.map Cs.c).drop (j + 1))) from upS_next (by
              have hjm : j < (L.map Cs.c).length := by simpa using hjl
              have hkm : j + 1 < (L.map Cs.c).length := by simpa using hlt
              have e2 := HX.out
              rw [List.getElem?_eq_getElem hkm] at e2
              rw [List.drop_eq_getElem_cons hjm, List.drop_eq_getElem_cons hkm, Option.some.inj e2, List.getElem_map, hy]))
            have HI := Lib.hid (show upS (L.map Cs.c) = upS ((L.map Cs.c).drop j) from HS.out.up)
            have KB := fun d os => Calls.regrown_of (mbehind_any y x (grow (redrawn w1 d) os))
            have y0 := cell_regrown y0
            have y1 := cell_regrown y1
            have y2 := cell_regrown y2
            have y3 := cell_regrown y3
            have y4 := cell_regrown y4
            clear hy hk0
            have hj1 : IntKind.i64.wrap (j : Int) = (j : Int) := IntWalk.i64_in _ (by omega)
            have hj2 : 0 ≤ (j : Int) + 1 := by omega
            have hj3 : ((j : Int) + 1).toNat = j + 1 := by omega
            have hj4 : (j : Int) + 1 < L.length := by omega
            have hj5 : decide ((0 : Int) < (j : Int) + 1) = true := decide_eq_true (by omega)
            have hj6 : decide (0 < j + 1) = true := decide_eq_true (by omega)
            have hja : (0 : Int) ≤ (j : Int) := by omega
            have hjb : (j : Int) < L.length := by omega
            cases hb : behindS y.c x.c
            · have HE := Lib.hid (change_no2 (view := view) (vs := vs) (f := f) (n := n) (show upS (L.map Cs.c) = false by rw [HI.out, HN.out, hb]; rfl))
              rw [hb] at KB
              clear hb
              refine wp_region_quiet_below (by kernel_rfl) (by kernel_rfl) ?_
              refine wq_out ?_
              iterate 8 (refine wq_do (by kernel_rfl) (fun K hK => ?_); go_simp; refine hK _ ?_; clear hK K)
              refine wq_do (by kernel_rfl) (fun K hK => ?_)
              go_simp
              apply Exists.intro
              refine ⟨fun a => ?_, hK _ ?_⟩
              · exact KC a.d a.os
              clear hK K
              iterate 12 (refine wq_do (by kernel_rfl) (fun K hK => ?_); go_simp; refine hK _ ?_; clear hK K)
              refine wq_do (by kernel_rfl) (fun K hK => ?_)
              go_simp
              apply Exists.intro
              refine ⟨fun a => ?_, hK _ ?_⟩
              · exact KB a.d a.os
              clear hK K
              iterate 3 (refine wq_do (by kernel_rfl) (fun K hK => ?_); go_simp; refine hK _ ?_; clear hK K)
              refine wq_nil ?_
              intro _ hw'
              obtain ⟨⟨dq, osq⟩, hw''⟩ := hw'
              subst hw''
              have HB3 := Lib.hid (HB1.out.trans ((below_regrown w1 dq osq).mono HB1.out.size))
              clear KC b0 b1 b2 b3 b4 KB y0 y1 y2 y3 y4
              go_wp2_with fail
              go_ret
              exact ⟨by rw [HE.out]; rfl, HB3.out⟩
            · have HU := Lib.hid (show upS (L.map Cs.c) = upS ((L.map Cs.c).drop (j + 1 + 1 - 1)) by rw [HI.out, HN.out, hb, Bool.true_and]; rfl)
              rw [hb] at KB
              clear hb
              refine wp_region_quiet_below (by kernel_rfl) (by kernel_rfl) ?_
              refine wq_out ?_
              iterate 8 (refine wq_do (by kernel_rfl) (fun K hK => ?_); go_simp; refine hK _ ?_; clear hK K)
              refine wq_do (by kernel_rfl) (fun K hK => ?_)
              go_simp
              apply Exists.intro
              refine ⟨fun a => ?_, hK _ ?_⟩
              · exact KC a.d a.os
              clear hK K
              iterate 12 (refine wq_do (by kernel_rfl) (fun K hK => ?_); go_simp; refine hK _ ?_; clear hK K)
              refine wq_do (by kernel_rfl) (fun K hK => ?_)
              go_simp
              apply Exists.intro
              refine ⟨fun a => ?_, hK _ ?_⟩
              · exact KB a.d a.os
              clear hK K
              iterate 3 (refine wq_do (by kernel_rfl) (fun K hK => ?_); go_simp; refine hK _ ?_; clear hK K)
              refine wq_nil ?_
              intro _ hw'
              obtain ⟨⟨dq, osq⟩, hw''⟩ := hw'
              subst hw''
              have HB3 := Lib.hid (HB1.out.trans ((below_regrown w1 dq osq).mono HB1.out.size))
              clear KC b0 b1 b2 b3 b4 KB y0 y1 y2 y3 y4
              go_wp2_with fail
              go_roundw
              case rel => exact ⟨j + 1 + 1, by go_num, by omega, HB3.out, HE.out, HU.out⟩
              case measure => simp [intOf]; omega
    · have hkl : (L.map Cs.c).length ≤ k := by simp; omega
      have HE := Lib.hid (show changeS view vs (L.map Cs.c) f n = true by
        have h1 := HS.out.all
        rw [List.take_of_length_le hkl] at h1
        unfold changeS
        rw [HRS.out, h1, HS.out.up, upS_last (by omega)]
        rfl)
      go_wp2_with fail
      go_ret
      exact ⟨by rw [HE.out]; rfl, HS.out.low⟩
theorem mchange_any {w : World} {A1 A3 : Option Addr} {c1 c3 : Nat} {vs : List Vt} {cs : List Ct} (hv : Has w w.heap.size A1 (voteCells vs)) (hvl : vs.length ≤ 1000000) (hc : HasCerts w w.heap.size A3 cs) (hcl : cs.length ≤ 1000000)
    (hsh : ∀ c ∈ cs, c.bt.length ≤ 1000000 ∧ c.vs.length ≤ 1000000) (view f n : Int) :
    Calls Tryz.prog 133 #[.int .i64 view, .slice A1 vs.length c1, .slice A3 cs.length c3, .int .i64 f, .int .i64 n] w fun e w' => e = .returned (.bool (changeS view vs cs f n)) ∧ Below w.heap.size w w' := by
  obtain ⟨L, hLc, hL, hLI⟩ := hc
  have hll : L.length = cs.length := by rw [← hLc]; simp
  have h := mchange_loop (c1 := c1) (c3 := c3) hv hvl hL hLI (by omega) (fun x hx => by
    have := hsh x.c (by rw [← hLc]; exact List.mem_map_of_mem hx)
    exact ⟨this.1, this.2⟩) view f n
  rw [hLc, hll] at h
  exact h
end Go.Proofs.YtbegjadohamkkaaGreat
