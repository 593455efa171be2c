/- The contract of the document's viewChange. -/
import Derived.Test.YtbegjadohamkkaaGreatOS1
import Derived.IntWalk
namespace Go.Proofs.YtbegjadohamkkaaGreat
open Go.RowKit Go.Sort

/-- A certificate of a row: where its fields lie. -/
theorem five_at {w : World} {B : Nat} {A : Option Addr} {L : List Cs} (h : Has w B A (L.flatMap Cs.cells)) {k : Nat} (hk : k < L.length) :
    ∃ ad, A = some ad ∧ w.cell? (ad.add (k * 5)) = some (.int .i64 L[k].c.vw) ∧ w.cell? ⟨(ad.add (k * 5)).block, (ad.add (k * 5)).off + 1, none⟩ = some (.int .i64 L[k].c.ins) ∧ w.cell? ⟨(ad.add (k * 5)).block, (ad.add (k * 5)).off + 2, none⟩ = some (.int .i64 L[k].c.sq) ∧
      w.cell? ⟨(ad.add (k * 5)).block, (ad.add (k * 5)).off + 3, none⟩ = some (.slice L[k].A1 L[k].c.bt.length L[k].c1) ∧ w.cell? ⟨(ad.add (k * 5)).block, (ad.add (k * 5)).off + 4, none⟩ = some (.slice L[k].A2 L[k].c.vs.length L[k].c2) := by
  obtain ⟨ad, e, _, hc⟩ := h.thing (f := Cs.cells) (s := 5) (fun _ => rfl) (by omega) hk
  refine ⟨ad, e, hc 0 _ rfl, ?_, ?_, ?_, ?_⟩
  · rw [← add_pos _ _ _ (by omega)]; exact hc 1 _ rfl
  · rw [← add_pos _ _ _ (by omega)]; exact hc 2 _ rfl
  · rw [← add_pos _ _ _ (by omega)]; exact hc 3 _ rfl
  · rw [← add_pos _ _ _ (by omega)]; exact hc 4 _ rfl
def goodC (view f n : Int) (c : Ct) : Bool := certS f n c && decide (c.vw < view)
theorem leaves_no1 {view : Int} {vs : List Vt} {cs : List Ct} {f n : Int} (h : cs.all (goodC view f n) = false) : leavesS view vs cs f n = false := by
  unfold leavesS
  rw [show cs.all (fun c => certS f n c && decide (c.vw < view)) = false from h]
  simp
theorem leaves_no2 {view : Int} {vs : List Vt} {cs : List Ct} {f n : Int} (h : upS cs = false) : leavesS view vs cs f n = false := by
  unfold leavesS; rw [h]; simp
/-- A row of certificates, looked at as far as k. -/
structure LvSt (w : World) (cs : List Ct) (view f n : Int) (k : Nat) (wr : World) : Prop where
  low : Below w.heap.size w wr
  all : (cs.take k).all (goodC view f n) = true
  up : upS cs = upS (cs.drop (k - 1))
set_option maxHeartbeats 4000000 in
set_option maxRecDepth 100000 in
theorem rleaves_loop {w : World} {A1 A3 : Option Addr} {c1 c3 : Nat} {vs : List Vt} {L : List Cs} (hv : Has w w.heap.size A1 (voteCells vs)) (hvl : vs.length ≤ 1000000) (hL : Has w w.heap.size A3 (L.flatMap Cs.cells)) (hLI : ∀ x ∈ L, x.In w w.heap.size) (hcl : L.length ≤ 1000000)
    (hsh : ∀ x ∈ L, x.Short) (view f n : Int) (hvw : 1 ≤ view ∧ view ≤ 12) (hri : risingS vs f = true) (hse : sealsS vs = true) :
    Calls Tryz.prog 83 #[.int .i64 view, .slice A1 vs.length c1, .slice A3 L.length c3, .int .i64 f, .int .i64 n] w fun e w' => e = .returned (.bool (leavesS view vs (L.map Cs.c) f n)) ∧ Below w.heap.size w w' := by
  have HY := Lib.hid (show leavesS view vs (L.map Cs.c) f n = ((L.map Cs.c).all (goodC view f n) && upS (L.map Cs.c)) by
    unfold leavesS
    rw [decide_eq_true hvw, hri, hse]
    rfl)
  have KR := Lib.hid (rrising_any (c := c1) hv rfl (by unfold maxLen; omega) f)
  rw [hri] at KR
  have KS := Lib.hid (fun q => rseals_any (c := c1) (hv.drewN q) (by omega))
  rw [hse] at KS
  have HHL := Lib.hid hL
  have HLI := Lib.hid hLI
  have HSh := Lib.hid hsh
  have t1 : decide (view < 1) = false := decide_eq_false (by omega)
  have t2 : decide (12 < view) = false := decide_eq_false (by omega)
  clear hv hL hLI hsh hri hse
  go_enter Tryz.func83, Tryz.ntmps83
  go_wp2_with fail
  refine KR.out.mono ?_
  rintro e w' ⟨rfl, q, rfl⟩
  go_wp2_with fail
  refine (KS.out q).mono ?_
  rintro e w' ⟨rfl, q2, rfl⟩
  have HL0 := Lib.hid (show LvSt w (L.map Cs.c) view f n 0 (w.drewN (q + q2)) from ⟨⟨rfl, rfl, rfl, Nat.le_refl _, fun _ _ => rfl⟩, rfl, rfl⟩)
  clear KR KS
  go_wp2_with fail
  go_loopw [11] (fun y wr => ∃ k : Nat, y = .int .i64 k ∧ k ≤ L.length ∧ Hid (LvSt w (L.map Cs.c) view f n k wr)) (fun y _ => L.length - (intOf y).toNat)
  case atStart => exact ⟨0, rfl, Nat.zero_le _, HL0.out⟩
  case round =>
    obtain ⟨k, rfl, hk, HS⟩ := hrel
    by_cases hlt : k < L.length
    · obtain ⟨ad, rfl, c0, c1', c2, c3', c4⟩ := five_at (HHL.out.below HS.out.low (Nat.le_refl _)) hlt
      obtain ⟨x, hx⟩ : ∃ x, L[k] = x := ⟨_, rfl⟩
      rw [hx] at c0 c1' c2 c3' c4
      have hxm : x ∈ L := hx ▸ List.getElem_mem hlt
      have HX := Lib.hid (show (L.map Cs.c)[k]? = some x.c by rw [List.getElem?_map, List.getElem?_eq_getElem hlt, hx]; rfl)
      have HBx := Lib.hid (HS.out.low.alloc HS.out.low.size (.cells #[.int .i64 x.c.vw, .int .i64 x.c.ins, .int .i64 x.c.sq, .slice x.A1 x.c.bt.length x.c1, .slice x.A2 x.c.vs.length x.c2] 25))
      have HBk := Lib.hid (Blk.new wr 25 #[.int .i64 x.c.vw, .int .i64 x.c.ins, .int .i64 x.c.sq, .slice x.A1 x.c.bt.length x.c1, .slice x.A2 x.c.vs.length x.c2])
      have HC := Lib.hid (rcert_any x ((HLI.out x hxm).reads (Reads.below HBx.out (Nat.le_refl _)) |>.reads (Reads.more HBx.out.size)) (HSh.out x hxm) f n)
      clear hx
      go_wp2_with fail
      refine HC.out.mono ?_
      rintro e w2 ⟨rfl, hb2⟩
      have HB2 := Lib.hid (HBx.out.trans (hb2.mono HBx.out.size))
      have hx2 := HBk.out.below hb2 HBk.out.lt
      have HBk2 := Lib.hid hx2
      have d0 : w2.cell? ⟨wr.heap.size, 0, none⟩ = some (.int .i64 x.c.vw) := hx2.cell 0
      clear hb2 hx2 HC c0 c1' c2 c3' c4
      cases hc : certS f n x.c
      · have HE := Lib.hid (leaves_no1 (vs := vs) (all_far (p := goodC view f n) HX.out (by unfold goodC; rw [hc]; rfl)))
        clear hc
        go_wp2_with fail
        go_ret
        exact ⟨by rw [HE.out]; rfl, HB2.out⟩
      · by_cases hv : x.c.vw < view
        · have HE := Lib.hid (show ((L.map Cs.c).take (k + 1)).all (goodC view f n) = true by rw [all_next HX.out, HS.out.all]; unfold goodC; rw [hc, decide_eq_true hv]; rfl)
          have t3 : decide (view ≤ x.c.vw) = false := decide_eq_false (by omega)
          clear hc hv
          by_cases hk0 : k = 0
          · have HU := Lib.hid (show upS (L.map Cs.c) = upS ((L.map Cs.c).drop (k + 1 - 1)) by rw [hk0]; rfl)
            have hkd : decide (0 < k) = false := decide_eq_false (by omega)
            have hkn : ¬ 0 < k := by omega
            clear hk0
            go_wp2_with fail
            refine wp_region_quiet_below (by kernel_rfl) (by kernel_rfl) ?_
            refine wq_out ?_
            iterate 3 (refine wq_do (by kernel_rfl) (fun K hK => ?_); go_simp; refine hK _ ?_; clear hK K)
            iterate 31 (refine wq_skip (by kernel_rfl) ?_)
            refine wq_do (by kernel_rfl) (fun K hK => ?_)
            go_simp
            refine hK _ ?_
            clear hK K
            refine wq_nil ?_
            intro _ hw'
            obtain ⟨⟨dq, osq⟩, hw''⟩ := hw'
            subst hw''
            have HB3 := Lib.hid (HB2.out.trans ((below_regrown w2 dq osq).mono HB2.out.size))
            clear d0
            go_wp2_with fail
            go_roundw
            case rel => exact ⟨k + 1, by go_num, by omega, HB3.out, HE.out, HU.out⟩
            case measure => simp [intOf]; omega
          · obtain ⟨j, rfl⟩ : ∃ j, k = j + 1 := ⟨k - 1, by omega⟩
            have hjl : j < L.length := by omega
            obtain ⟨_, he, _, y1, y2, _, _⟩ := five_at (HHL.out.below HB2.out (Nat.le_refl _)) hjl
            cases he
            obtain ⟨y, hy⟩ : ∃ y, L[j] = y := ⟨_, rfl⟩
            rw [hy] at y1 y2
            have HN := Lib.hid (show upS ((L.map Cs.c).drop j) = (behindS y.c x.c && upS ((L.map Cs.c).drop (j + 1))) from upS_next (by
              have hjm : j < (L.map Cs.c).length := by simpa using hjl
              have hkm : j + 1 < (L.map Cs.c).length := by simpa using hlt
              have e2 := HX.out
              rw [List.getElem?_eq_getElem hkm] at e2
              rw [List.drop_eq_getElem_cons hjm, List.drop_eq_getElem_cons hkm, Option.some.inj e2, List.getElem_map, hy]))
            have HI := Lib.hid (show upS (L.map Cs.c) = upS ((L.map Cs.c).drop j) from HS.out.up)
            have b1 := HBk2.out.cell 1
            have b2 := HBk2.out.cell 2
            simp only [List.getElem?_toArray, List.getElem?_cons_zero, List.getElem?_cons_succ] at b1 b2
            have b1 := cell_regrown b1
            have b2 := cell_regrown b2
            have y1 := cell_regrown y1
            have y2 := cell_regrown y2
            clear hy hk0
            have hj1 : IntKind.i64.wrap (j : Int) = (j : Int) := IntWalk.i64_in _ (by omega)
            have hj2 : 0 ≤ (j : Int) + 1 := by omega
            have hj3 : ((j : Int) + 1).toNat = j + 1 := by omega
            have hj4 : (j : Int) + 1 < L.length := by omega
            have hj5 : decide ((0 : Int) < (j : Int) + 1) = true := decide_eq_true (by omega)
            have hj6 : decide (0 < j + 1) = true := decide_eq_true (by omega)
            have hja : (0 : Int) ≤ (j : Int) := by omega
            have hjb : (j : Int) < L.length := by omega
            go_wp2_with fail
            by_cases h1 : x.c.ins < y.c.ins
            · have HE2 := Lib.hid (leaves_no2 (view := view) (vs := vs) (f := f) (n := n) (show upS (L.map Cs.c) = false by rw [HI.out, HN.out, show behindS y.c x.c = false from decide_eq_false (by omega)]; rfl))
              have u1 : decide (x.c.ins < y.c.ins) = true := decide_eq_true h1
              clear h1
              refine wp_region_quiet_below (by kernel_rfl) (by kernel_rfl) ?_
              refine wq_out ?_
              iterate 13 (refine wq_do (by kernel_rfl) (fun K hK => ?_); go_simp; refine hK _ ?_; clear hK K)
              iterate 20 (refine wq_skip (by kernel_rfl) ?_)
              iterate 2 (refine wq_do (by kernel_rfl) (fun K hK => ?_); go_simp; refine hK _ ?_; clear hK K)
              refine wq_nil ?_
              intro _ hw'
              obtain ⟨⟨dq, osq⟩, hw''⟩ := hw'
              subst hw''
              have HB3 := Lib.hid (HB2.out.trans ((below_regrown w2 dq osq).mono HB2.out.size))
              clear d0 b1 b2 y1 y2
              go_wp2_with fail
              go_ret
              exact ⟨by rw [HE2.out]; rfl, HB3.out⟩
            · have u1 : decide (x.c.ins < y.c.ins) = false := decide_eq_false h1
              by_cases h2 : x.c.ins = y.c.ins
              · have u2 : (x.c.ins == y.c.ins) = true := by simpa using h2
                by_cases h3 : x.c.sq ≤ y.c.sq
                · have HE2 := Lib.hid (leaves_no2 (view := view) (vs := vs) (f := f) (n := n) (show upS (L.map Cs.c) = false by rw [HI.out, HN.out, show behindS y.c x.c = false from decide_eq_false (by omega)]; rfl))
                  have u3 : decide (x.c.sq ≤ y.c.sq) = true := decide_eq_true h3
                  clear h1 h2 h3
                  refine wp_region_quiet_below (by kernel_rfl) (by kernel_rfl) ?_
                  refine wq_out ?_
                  iterate 35 (refine wq_do (by kernel_rfl) (fun K hK => ?_); go_simp; refine hK _ ?_; clear hK K)
                  refine wq_nil ?_
                  intro _ hw'
                  obtain ⟨⟨dq, osq⟩, hw''⟩ := hw'
                  subst hw''
                  have HB3 := Lib.hid (HB2.out.trans ((below_regrown w2 dq osq).mono HB2.out.size))
                  clear d0 b1 b2 y1 y2
                  go_wp2_with fail
                  go_ret
                  exact ⟨by rw [HE2.out]; rfl, HB3.out⟩
                · have HU := Lib.hid (show upS (L.map Cs.c) = upS ((L.map Cs.c).drop (j + 1 + 1 - 1)) by rw [HI.out, HN.out, show behindS y.c x.c = true from decide_eq_true (by omega), Bool.true_and]; rfl)
                  have u3 : decide (x.c.sq ≤ y.c.sq) = false := decide_eq_false h3
                  clear h1 h2 h3
                  refine wp_region_quiet_below (by kernel_rfl) (by kernel_rfl) ?_
                  refine wq_out ?_
                  iterate 35 (refine wq_do (by kernel_rfl) (fun K hK => ?_); go_simp; refine hK _ ?_; clear hK K)
                  refine wq_nil ?_
                  intro _ hw'
                  obtain ⟨⟨dq, osq⟩, hw''⟩ := hw'
                  subst hw''
                  have HB3 := Lib.hid (HB2.out.trans ((below_regrown w2 dq osq).mono HB2.out.size))
                  clear d0 b1 b2 y1 y2
                  go_wp2_with fail
                  go_roundw
                  case rel => exact ⟨j + 1 + 1, by go_num, by omega, HB3.out, HE.out, HU.out⟩
                  case measure => simp [intOf]; omega
              · have HU := Lib.hid (show upS (L.map Cs.c) = upS ((L.map Cs.c).drop (j + 1 + 1 - 1)) by rw [HI.out, HN.out, show behindS y.c x.c = true from decide_eq_true (by omega), Bool.true_and]; rfl)
                have u2 : (x.c.ins == y.c.ins) = false := by simpa using h2
                clear h1 h2
                refine wp_region_quiet_below (by kernel_rfl) (by kernel_rfl) ?_
                refine wq_out ?_
                iterate 23 (refine wq_do (by kernel_rfl) (fun K hK => ?_); go_simp; refine hK _ ?_; clear hK K)
                iterate 9 (refine wq_skip (by kernel_rfl) ?_)
                iterate 3 (refine wq_do (by kernel_rfl) (fun K hK => ?_); go_simp; refine hK _ ?_; clear hK K)
                refine wq_nil ?_
                intro _ hw'
                obtain ⟨⟨dq, osq⟩, hw''⟩ := hw'
                subst hw''
                have HB3 := Lib.hid (HB2.out.trans ((below_regrown w2 dq osq).mono HB2.out.size))
                clear d0 b1 b2 y1 y2
                go_wp2_with fail
                go_roundw
                case rel => exact ⟨j + 1 + 1, by go_num, by omega, HB3.out, HE.out, HU.out⟩
                case measure => simp [intOf]; omega
        · have HE := Lib.hid (leaves_no1 (vs := vs) (all_far (p := goodC view f n) HX.out (by unfold goodC; rw [decide_eq_false hv, Bool.and_false])))
          have t3 : decide (view ≤ x.c.vw) = true := decide_eq_true (by omega)
          clear hc hv
          go_wp2_with fail
          go_ret
          exact ⟨by rw [HE.out]; rfl, HB2.out⟩
    · have hkl : (L.map Cs.c).length ≤ k := by simp; omega
      have HE := Lib.hid (show leavesS view vs (L.map Cs.c) f n = true by
        have h1 := HS.out.all
        rw [List.take_of_length_le hkl] at h1
        rw [HY.out, h1, HS.out.up, upS_last (by omega)]
        rfl)
      go_wp2_with fail
      go_ret
      exact ⟨by rw [HE.out]; rfl, HS.out.low⟩
end Go.Proofs.YtbegjadohamkkaaGreat
