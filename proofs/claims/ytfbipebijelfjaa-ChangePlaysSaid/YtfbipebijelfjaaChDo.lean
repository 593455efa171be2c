/- Votes to leave views and the document's, side by side: do, right. -/
import Derived.Test.YtfbipebijelfjaaChd3
import Derived.Test.YtfbipebijelfjaaActs16
import Derived.Test.YtfbipebijelfjaaWithin
import Derived.Test.YtfbipebijelfjaaSameCerts
import Derived.Deep.RegionHeld3
namespace Go.Proofs.Ytfbipebijelfjaa
open Go.RowKit
set_option linter.unusedSimpArgs false

/-- Both tell the same votes. -/
structure Jc (w : World) (vb g c cb : Nat) (f : Int) (L : List Cw) : Prop where
  v : Vq w vb g c f L
  d : Blk w cb 48 (dqC f L)
section
variable {w w' : World} {vb g c cb : Nat} {f : Int} {L : List Cw}
theorem Jc.ne (h : Jc w vb g c cb f L) : cb ≠ vb ∧ cb ≠ g := ⟨h.d.ne_ h.v.blk (by decide), fun e => own_blk_ne h.v.row h.d (by decide) (by rw [e]; rfl)⟩
theorem Jc.kept {Z : Nat → Prop} (h : Jc w vb g c cb f L) (ht : Turn Z w w') (h1 : ¬ Z vb) (h2 : ¬ Z g) (h3 : ¬ Z cb) : Jc w' vb g c cb f L := ⟨h.v.kept ht h1 h2, ht.blk h.d h3⟩
theorem Jc.below (h : Jc w vb g c cb f L) (hb : Below w.heap.size w w') : Jc w' vb g c cb f L := ⟨h.v.below hb, h.d.below hb h.d.lt⟩
theorem Jc.drewN (h : Jc w vb g c cb f L) (n : Nat) : Jc (w.drewN n) vb g c cb f L := h.below ⟨rfl, rfl, rfl, Nat.le_refl _, fun _ _ => rfl⟩
theorem Jc.lt (h : Jc w vb g c cb f L) : vb < w.heap.size ∧ g < w.heap.size ∧ cb < w.heap.size := ⟨h.v.lt.1, h.v.lt.2, h.d.lt⟩
/-- What an act leaves. -/
def CDo (w : World) (vb g c cb : Nat) (f : Int) (e : Ending) (w' : World) : Prop := e = .returned (.bool true) ∧ ∃ L', Jc w' vb g c cb f L' ∧ Turn (fun j => j = g ∨ j = cb) w w'
set_option maxHeartbeats 2000000 in
theorem cdo_any (h : Jc w vb g c cb f L) {dd nd vw sg : Int} (hd : fit dd) :
    Calls Try.prog 16 #[.pointer (some ⟨vb, 0, none⟩), .pointer (some ⟨cb, 0, none⟩), .agg #[.int .i64 dd, .int .i64 nd, .int .i64 vw, .int .i64 sg]] w (CDo w vb g c cb f) := by
  have hB := Blk.new w 43 #[.int .i64 dd, .int .i64 nd, .int .i64 vw, .int .i64 sg]
  have HLt := Lib.hid h.lt
  have HJ := Lib.hid (show Jc (w.alloc (.cells #[.int .i64 dd, .int .i64 nd, .int .i64 vw, .int .i64 sg] 43)) vb g c cb f L from h.below ((Below.refl _ _).alloc (Nat.le_refl _) _))
  have HT0 := Lib.hid (show Turn (fun j => j = g ∨ j = cb) w (w.alloc (.cells #[.int .i64 dd, .int .i64 nd, .int .i64 vw, .int .i64 sg] 43)) from (Turn.refl _ w).alloc _)
  have HW6 := Lib.hid (fun w => within_any dd 6 (by omega) (by omega) (wf_i64 hd).1 (wf_i64 hd).2 w)
  obtain ⟨t, ht⟩ : ∃ t, dd % 6 = t := ⟨_, rfl⟩
  rw [ht] at HW6
  have HB := Lib.hid hB
  obtain ⟨H, hH⟩ : ∃ y, w.heap.size = y := ⟨_, rfl⟩
  have HH := Lib.hid hH
  obtain ⟨w1, hw1⟩ : ∃ y, w.alloc (.cells #[.int .i64 dd, .int .i64 nd, .int .i64 vw, .int .i64 sg] 43) = y := ⟨_, rfl⟩
  rw [hw1] at HB HJ HT0
  rw [hH] at HB
  have d0 : w1.cell? ⟨H, 0, none⟩ = some (.int .i64 dd) := HB.out.cell 0
  have d1 : w1.drew.cell? ⟨H, 1, none⟩ = some (.int .i64 nd) := HB.out.cell 1
  have d2 : w1.drew.cell? ⟨H, 2, none⟩ = some (.int .i64 vw) := HB.out.cell 2
  have d3 : w1.drew.cell? ⟨H, 3, none⟩ = some (.int .i64 sg) := HB.out.cell 3
  have HNe := Lib.hid (show H ≠ g ∧ H ≠ cb from by have := HLt.out; omega)
  clear h hB hd ht
  by_cases ht5 : t < 5
  · have gt : decide (t < 5) = true := decide_eq_true ht5
    obtain ⟨ok, L', hpt⟩ : ∃ b L', ptC L nd vw sg = (b, L') := ⟨_, _, rfl⟩
    have HP := Lib.hid (cput_any (HJ.out.drewN 1).v nd vw sg)
    have HP2 := Lib.hid (fun (wz : World) (hz : Blk wz cb 48 (dqC f L)) => dput_any hz HJ.out.v.f1 HJ.out.v.f4 HJ.out.v.n1 nd vw sg)
    rw [hpt] at HP HP2
    have HD1 := Lib.hid (HJ.out.drewN 1).d
    have HNe2 := Lib.hid HJ.out.ne
    have hq1 : w1.drew.cell? ⟨H, 1, none⟩ = some (.int .i64 nd) ∧ w1.drew.cell? ⟨H, 2, none⟩ = some (.int .i64 vw) ∧ w1.drew.cell? ⟨H, 3, none⟩ = some (.int .i64 sg) := ⟨d1, d2, d3⟩
    clear ht5 hpt d1 d2 d3
    go_enter Try.func16, Try.ntmps16
    go_wp2_with fail
    refine (HW6.out _).mono ?_
    rintro e wz ⟨rfl, rfl⟩
    go_wp2_with fail
    go_region_held3 (fun w' => w'.cell? ⟨H, 1, none⟩ = some (.int .i64 nd) ∧ w'.cell? ⟨H, 2, none⟩ = some (.int .i64 vw) ∧ w'.cell? ⟨H, 3, none⟩ = some (.int .i64 sg)) (first | exact hq1 | exact hq2 | exact hq3 | go_keep)
      (first
        | (go_at_call 10; refine HP.out.mono ?_; rintro e w2 ⟨rfl, hv2, ht2⟩; have hb2 := ht2.blk (HB.out.drewN 1) HNe.out.1; have hq2 : w2.cell? ⟨H, 1, none⟩ = some (.int .i64 nd) ∧ w2.cell? ⟨H, 2, none⟩ = some (.int .i64 vw) ∧ w2.cell? ⟨H, 3, none⟩ = some (.int .i64 sg) := ⟨hb2.cell 1, hb2.cell 2, hb2.cell 3⟩)
        | (go_at_call 24; refine (HP2.out w2 (ht2.blk HD1.out HNe2.out.2)).mono ?_; rintro e w3 ⟨rfl, hd3, ht3⟩; have hb3 := ht3.blk hb2 HNe.out.2; have hq3 : w3.cell? ⟨H, 1, none⟩ = some (.int .i64 nd) ∧ w3.cell? ⟨H, 2, none⟩ = some (.int .i64 vw) ∧ w3.cell? ⟨H, 3, none⟩ = some (.int .i64 sg) := ⟨hb3.cell 1, hb3.cell 2, hb3.cell 3⟩))
    have HF := Lib.hid (show Jc w3 vb g c cb f L' from ⟨hv2.kept ht3 (fun e => HNe2.out.1 e.symm) (fun e => HNe2.out.2 e.symm), hd3⟩)
    have HT := Lib.hid (show Turn (fun j => j = g ∨ j = cb) w w3 from ((HT0.out.drewN 1).trans (ht2.mono fun _ _ h => Or.inl h)).trans (ht3.mono fun _ _ h => Or.inr h))
    clear hv2 ht2 hb2 hq2 hd3 ht3 hb3 hq3 hq1
    go_wp2_with fail
    go_ret
    exact ⟨by first | rfl | simp, L', HF.out, HT.out⟩
  · have gt : decide (t < 5) = false := decide_eq_false ht5
    obtain ⟨L', hL'⟩ : ∃ y, drC L vw = y := ⟨_, rfl⟩
    obtain ⟨nu, hnu⟩ : ∃ y, numC L vw = y := ⟨_, rfl⟩
    have HP := Lib.hid (cdrop_any (HJ.out.drewN 1).v vw)
    have HP2 := Lib.hid (fun (wz : World) (hz : Blk wz cb 48 (dqC f L)) => ddrop_any hz HJ.out.v.ok (by have := HJ.out.v.n1; have := HJ.out.v.f4; omega) vw)
    rw [hL', hnu] at HP HP2
    have HD1 := Lib.hid (HJ.out.drewN 1).d
    have HNe2 := Lib.hid HJ.out.ne
    have hq1 : w1.drew.cell? ⟨H, 2, none⟩ = some (.int .i64 vw) := d2
    clear ht5 hL' hnu d1 d2 d3
    go_enter Try.func16, Try.ntmps16
    go_wp2_with fail
    refine (HW6.out _).mono ?_
    rintro e wz ⟨rfl, rfl⟩
    go_wp2_with fail
    go_region_held3 (fun w' => w'.cell? ⟨H, 2, none⟩ = some (.int .i64 vw)) (first | exact hq1 | exact hq2 | exact hq3 | go_keep)
      (first
        | (go_at_call 13; refine HP.out.mono ?_; rintro e w2 ⟨rfl, hv2, ht2⟩; have hb2 := ht2.blk (HB.out.drewN 1) HNe.out.1; have hq2 : w2.cell? ⟨H, 2, none⟩ = some (.int .i64 vw) := hb2.cell 2)
        | (go_at_call 25; refine (HP2.out w2 (ht2.blk HD1.out HNe2.out.2)).mono ?_; rintro e w3 ⟨rfl, hd3, ht3⟩; have hb3 := ht3.blk hb2 HNe.out.2; have hq3 : w3.cell? ⟨H, 2, none⟩ = some (.int .i64 vw) := hb3.cell 2))
    have HF := Lib.hid (show Jc w3 vb g c cb f L' from ⟨hv2.kept ht3 (fun e => HNe2.out.1 e.symm) (fun e => HNe2.out.2 e.symm), hd3⟩)
    have HT := Lib.hid (show Turn (fun j => j = g ∨ j = cb) w w3 from ((HT0.out.drewN 1).trans (ht2.mono fun _ _ h => Or.inl h)).trans (ht3.mono fun _ _ h => Or.inr h))
    clear hv2 ht2 hb2 hq2 hd3 ht3 hb3 hq3 hq1
    go_wp2_with fail
    go_ret
    exact ⟨by first | rfl | simp, L', HF.out, HT.out⟩
end
end Go.Proofs.Ytfbipebijelfjaa
