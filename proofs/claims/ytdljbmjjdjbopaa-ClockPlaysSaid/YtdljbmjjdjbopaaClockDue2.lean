/- Package clock: Due's walk. -/
import Derived.Test.YtdljbmjjdjbopaaClockDue
import Derived.Test.YtdljbmjjdjbopaaIntSort
import Derived.Sort.OwnSorted
namespace Go.Proofs.Ytdljbmjjdjbopaa
open Go.RowKit Go.Maps

set_option maxHeartbeats 2000000 in
set_option maxRecDepth 100000 in
theorem due_any {w : World} {cb bm N : Nat} {now : Int} {S : Ts} (h : Ck w cb bm now N S) (hN : N ≤ 1000000) :
    Calls Try.prog 12 #[.pointer (some ⟨cb, 0, none⟩)] w fun e w' => ∃ v l, e = .returned v ∧ w'.ownsRow w.heap.size 3 1 v l.length (ics l) ∧ DueIs S now l ∧ Ck w' cb bm now N (S.strip l) ∧ Turn (fun k => k = bm) w w' := by
  obtain ⟨i0, hi0, hx0, hx1, hx2⟩ := info_parts cinfo_int
  have HC := Lib.hid h
  have hc1 := h.blk.cell 1
  simp only [List.getElem?_toArray, List.getElem?_cons_zero, List.getElem?_cons_succ] at hc1
  obtain ⟨D, hD, hT⟩ := h.map
  have HD := Lib.hid hD
  have HT := Lib.hid hT
  have HM := Lib.hid hN
  clear h hD hT hN
  go_enter Try.func12, Try.ntmps12
  go_wp2_with (first
    | (at_range; refine wpList_range_own _ rfl _ 46 rfl 3 3 cint_law Try.underlying46 _ bm N D rfl HD.out ?_; intro w0 hrg0 hg0 hs0)
    | fail)
  go_frame
  have HS0 := Lib.hid (show D1 w cb bm w.heap.size N D S now (.slice none 0 0) (Maps.size D) w0 from ⟨⟨_, [], hrg0, by simpa using HD.out.size_le, World.ownsRow_nil _ _ _ _, Got.start HT.out now⟩, (Below.refl _ _).grown hg0 (Nat.le_refl _) (fun k hk => by cases hk)⟩)
  clear hrg0 hg0 hs0
  go_loopw [3] (fun v wr => ∃ cnt : Nat, Hid (D1 w cb bm w.heap.size N D S now v cnt wr)) (fun _ wr => wr.rangeLeft bm w.heap.size)
  case atStart => exact ⟨_, HS0⟩
  case round =>
    obtain ⟨cnt, HS⟩ := hrel
    obtain ⟨left, zs, hrg, hle, hrow, hgot⟩ := HS.out.ex
    have HLow := Lib.hid HS.out.low
    have HRow := Lib.hid hrow
    have HGot := Lib.hid hgot
    have HRg := Lib.hid hrg
    obtain ⟨Av, cv, hv, _, _⟩ := own_slice hrow
    subst hv
    clear HS hrow hgot hrg
    go_wp2_with (first
      | (at_next; refine wpList_next_ranges_ii _ rfl _ rfl 3 3 .i64 .i64 cint_law Try.underlying3 Try.underlying3 bm w.heap.size N _ _ _ rfl HRg.out ?_ ?_)
      | fail)
    · intro hz hl0
      have HDu := Lib.hid (HGot.out.due hl0)
      have HS2 := Lib.hid (show D2 w cb bm N S now Av cv zs 0 wr from ⟨by rw [List.take_zero, Ts.strip_nil]; exact HC.out.below HLow.out, HRow.out, Turn.of_below HLow.out⟩)
      have HZl := Lib.hid (show zs.length ≤ 1000000 by have := HM.out; omega)
      clear HRg hle hl0 hz
      go_wp2_with fail
      go_loopw [30] (fun x wr2 => ∃ k : Nat, x = .int .i64 k ∧ k ≤ zs.length ∧ Hid (D2 w cb bm N S now Av cv zs k wr2)) (fun x _ => zs.length - (intOf x).toNat)
      case atStart => exact ⟨0, rfl, Nat.zero_le _, HS2⟩
      case round =>
        obtain ⟨k, rfl, hk, HS⟩ := hrel
        have hZl := HZl.out
        by_cases hlt : k < zs.length
        · obtain ⟨ad, rfl, _, hcz⟩ := (Has.own HS.out.row).at (k := k) (by rw [ics_len]; exact hlt)
          obtain ⟨z, hz⟩ : ∃ z, zs[k]? = some z := ⟨_, List.getElem?_eq_getElem hlt⟩
          have hcz2 : wr.cell? (ad.add k) = some (.int .i64 z) := by
            rw [hcz]
            have := ics_at hz
            rw [List.getElem?_eq_getElem (by rw [ics_len]; exact hlt)] at this
            exact this
          have HZ := Lib.hid hz
          have hcm := HS.out.ck.blk.cell 1
          simp only [List.getElem?_toArray, List.getElem?_cons_zero, List.getElem?_cons_succ] at hcm
          have HF := Lib.hid (show fit z by
            obtain ⟨f, hf, _⟩ := (HDu.out.mem z).1 (by rw [cmem]; exact List.mem_of_getElem? hz)
            exact (HC.out.fits z f hf).1)
          have HKz := Lib.hid (cint_key HF.out)
          obtain ⟨D', hD', hT'⟩ := HS.out.ck.map
          have HD' := Lib.hid hD'
          have HT' := Lib.hid hT'
          clear hcz hz hD' hT'
          go_wp2_with (first
            | (at_delete; refine wpList_delete_own _ rfl _ _ 46 3 rfl 3 cint_law Try.underlying46 _ bm N D' rfl HD'.out _ _ rfl HKz.out ?_; intro w3 hown3 hturn3)
            | fail)
          have HT3 := Lib.hid (show Turn (fun k => k = bm) wr w3 from Turn.grown (Turn.refl _ wr) hturn3.grown (fun k hk _ => (Option.some.inj hk).symm))
          have HS3 := Lib.hid (show D2 w cb bm N S now (some ad) cv zs (k + 1) w3 from by
            refine ⟨?_, HT3.out.own HS.out.row (fun g hg e => ?_), HS.out.turn.trans HT3.out⟩
            · rw [← Ts.strip_next S HZ.out]
              exact ⟨HT3.out.blk HS.out.ck.blk HC.out.ne, _, hown3, HT'.out.del⟩
            · have h1 := (HS.out.row.lt g hg).1
              have h2 := HC.out.lt.2
              omega)
          clear hown3 hturn3 HS
          go_wp2_with fail
          go_roundw
          case rel => exact ⟨k + 1, by go_num, by omega, HS3⟩
          case measure => simp [intOf]; omega
        · obtain rfl : k = zs.length := by omega
          have HK := Lib.hid HS.out.ck
          rw [List.take_length] at HK
          have HTn := Lib.hid HS.out.turn
          have HO := Lib.hid HS.out.row
          have hbl := HC.out.lt.2
          by_cases h0 : zs.length = 0
          · have HE := Lib.hid (List.eq_nil_of_length_eq_zero h0)
            rw [HE.out] at HK HDu HO
            have HDu2 := Lib.hid (show DueIs S now [] from by simpa using HDu.out)
            have KS := Lib.hid (fun w => AnyM.slices_Sort_int_none sortInt Av cv w)
            have HN0 := Lib.hid h0
            rw [h0]
            clear HS h0 hk hlt hZl
            go_wp2_with fail
            refine (KS.out wr).mono ?_
            rintro e w' ⟨rfl, rfl⟩
            go_wp2_with fail
            go_ret
            exact ⟨_, [], rfl, HO.out, HDu2.out, HK.out, HTn.out⟩
          · have hA : ∃ g, Av = some ⟨g, 0, none⟩ := by
              rcases HO.out.2 with ⟨_, h⟩ | ⟨g, cap, cur, hv, _⟩
              · omega
              · injection hv with h
                exact ⟨g, h⟩
            obtain ⟨g, rfl⟩ := hA
            have hgl := HO.out.lt g rfl
            have KS := Lib.hid (AnyM.slices_Sort_int sortInt g 0 cv zs wr (holds_int HO.out rfl) hgl.2 (by omega))
            have HGL := Lib.hid hgl
            clear HS hgl
            go_wp2_with fail
            refine KS.out.mono ?_
            rintro e w2 ⟨rfl, m, os, hw2⟩
            obtain ⟨ho2, hb2⟩ := own_ints (m := m) (os := os) (d' := zs.mergeSort fun x y => decide (x ≤ y)) HO.out rfl (by rw [List.length_mergeSort])
            rw [← hw2] at ho2 hb2
            have HS4 := Lib.hid (Ts.strip_perm S (fun z => (cmem (zs := zs) (z := z)).symm))
            obtain ⟨ys, hys⟩ : ∃ ys, zs.mergeSort (fun x y => decide (x ≤ y)) = ys := ⟨_, rfl⟩
            have hyl : ys.length = zs.length := by rw [← hys, List.length_mergeSort]
            rw [hys] at ho2 HDu HS4
            have HO2 := Lib.hid ho2
            have HB2 := Lib.hid hb2
            have HYl := Lib.hid hyl
            clear hw2 ho2 hb2 hys hyl KS
            go_wp2_with fail
            go_ret
            refine ⟨_, ys, rfl, by rw [HYl.out]; exact HO2.out, HDu.out, ?_, ?_⟩
            · rw [← HS4.out]
              refine HK.out.kept (Z := fun k => w.heap.size ≤ k) ⟨HB2.out.os, HB2.out.tape, HB2.out.output, HB2.out.size, fun k _ hn => HB2.out.block k (by omega)⟩ ?_ ?_
              · have := HC.out.lt.1; omega
              · omega
            · exact ((HTn.out.mono (Z' := fun k => k = bm ∨ w.heap.size ≤ k) (fun k _ h => Or.inl h)).trans ⟨HB2.out.os, HB2.out.tape, HB2.out.output, HB2.out.size, fun k _ hn => HB2.out.block k (by omega)⟩).mono (fun k hk h => h.elim id (fun h => absurd h (by omega)))
    · intro x c w1 cnt1 hwx hwc hlx hat hrg1 hlt hg1 hs1 hen
      have HB1 := Lib.hid (HLow.out.grown hg1 HLow.out.size (fun k hk => by cases hk; exact Nat.le_refl _))
      have HRow1 := Lib.hid (HRow.out.kept hg1 (Or.inr (row_ne_iter HRow.out HRg.out).symm))
      have HRg1 := Lib.hid hrg1
      have HX := Lib.hid hwx
      have HV := Lib.hid (HT.out.val hwx hat)
      have HL := Lib.hid hlx
      have HCw := Lib.hid (HC.out.below HB1.out)
      have hq0 := HCw.out.blk.cell 0
      simp only [List.getElem?_toArray, List.getElem?_cons_zero] at hq0
      clear hs1 hg1 hat hrg1 hwx hlx hwc
      by_cases hc : c ≤ now
      · go_wp2_with (first
          | (at_builtin; refine wpList_append_own _ rfl _ _ 22 rfl w.heap.size 3 i0 (.int .i64 0) 1 8 Try.underlying22 hi0 hx0 hx1 hx2 rfl (by decide) _ _ _ rfl (HRow1.out.alloc _) ⟨w1.heap.size, 0, none⟩ 1 1 [.int .i64 x] rfl rfl (cell_one_new _ _ _) (by simp [Value.oneCell']) (by have := HM.out; unfold maxLen; omega) (by have := HM.out; omega) (by have := HB1.out.size; simp; omega) ?_; intro v' w3 hown' hg3 hnil3)
          | fail)
        have HB3 := Lib.hid ((HB1.out.alloc HB1.out.size (.cells #[.int .i64 x] 3)).grown hg3 (by have := HB1.out.size; simp; omega) (fun k hk => (HRow1.out.lt k hk).1))
        have HS3 := Lib.hid (show D1 w cb bm w.heap.size N D S now v' cnt1 w3 from ⟨⟨_, zs ++ [x], (HRg1.out.alloc _).kept hg3 (row_ne_low HRow1.out HC.out.lt.2) (row_ne_iter HRow1.out HRg1.out), by simp; omega, by rw [ics_app, List.length_append]; exact hown', HGot.out.put HX.out HL.out HV.out hc⟩, HB3.out⟩)
        have HM1 := Lib.hid (show w3.rangeLeft bm w.heap.size < wr.rangeLeft bm w.heap.size by rw [((HRg1.out.alloc _).kept hg3 (row_ne_low HRow1.out HC.out.lt.2) (row_ne_iter HRow1.out HRg1.out)).left_eq, HRg.out.left_eq]; exact hlt)
        clear hown' hg3 hnil3
        go_roundw
        case rel => exact ⟨_, HS3⟩
        case measure => exact HM1.out
      · go_wp2_with fail
        have HS3 := Lib.hid (show D1 w cb bm w.heap.size N D S now (.slice Av zs.length cv) cnt1 w1 from ⟨⟨_, zs, HRg1.out, by omega, HRow1.out, HGot.out.skip HX.out HV.out hc⟩, HB1.out⟩)
        have HM1 := Lib.hid (show w1.rangeLeft bm w.heap.size < wr.rangeLeft bm w.heap.size by rw [HRg1.out.left_eq, HRg.out.left_eq]; exact hlt)
        go_roundw
        case rel => exact ⟨_, HS3⟩
        case measure => exact HM1.out
end Go.Proofs.Ytdljbmjjdjbopaa
