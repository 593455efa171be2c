/- Package change: votes that were made since a world; the example of the document. -/
import Derived.Test.YtfbipebijelfjaaChg3
namespace Go.Proofs.Ytfbipebijelfjaa
open Go.RowKit
set_option linter.unusedSimpArgs false

/-- Votes that were made since w. -/
structure Rv (w : World) (vb g c : Nat) (f : Int) (L : List Cw) (wr : World) : Prop where
  vq : Vq wr vb g c f L
  lv : w.heap.size ≤ vb
  lg : w.heap.size ≤ g
  low : Below w.heap.size w wr
section
variable {w wr wz : World} {vb g c : Nat} {f : Int} {L L' : List Cw}
theorem Rv.has (h : Rv w vb g c f L wr) {A : Option Addr} {xs : List Value} (hh : Has w w.heap.size A xs) : Has wr w.heap.size A xs := hh.below h.low (Nat.le_refl _)
theorem Rv.post (h : Rv w vb g c f L wr) (hc : Vq wz vb g c f L') (ht : Turn (fun j => j = g) wr wz) : Rv w vb g c f L' wz :=
  ⟨hc, h.lv, h.lg, h.low.trans (ht.below h.low.size (fun k hk e => by have := h.lg; omega))⟩
theorem Rv.below (h : Rv w vb g c f L wr) (hb : Below wr.heap.size wr wz) : Rv w vb g c f L wz := ⟨h.vq.below hb, h.lv, h.lg, h.low.trans (hb.mono h.low.size)⟩
theorem Rv.drewN (h : Rv w vb g c f L wr) (n : Nat) : Rv w vb g c f L (wr.drewN n) := h.below ⟨rfl, rfl, rfl, Nat.le_refl _, fun _ _ => rfl⟩
theorem Rv.drew (h : Rv w vb g c f L wr) : Rv w vb g c f L wr.drew := h.drewN 1
theorem rv_new {n : Nat} (h1 : 1 ≤ f) (h4 : f ≤ 4) (hn : (n : Int) = 3 * f + 1) (w u : World) (hu : Below w.heap.size w u) : Calls Try.prog 8 #[.int .i64 f] u fun e w' => ∃ vb g c, e = .returned (.tuple #[.pointer (some ⟨vb, 0, none⟩), .int .i64 0]) ∧ Rv w vb g c f (List.replicate n none) w' ∧ Below u.heap.size u w' ∧ u.heap.size ≤ vb ∧ u.heap.size ≤ g :=
  (cvnew_in h1 h4 hn u).mono fun _ _ ⟨vb, g, c, he, hv, h1, h2, hb⟩ => ⟨vb, g, c, he, ⟨hv, Nat.le_trans hu.size h1, Nat.le_trans hu.size h2, hu.trans (hb.mono hu.size)⟩, hb, h1, h2⟩
theorem rv_put (h : Rv w vb g c f L wr) (k vw sg : Int) : Calls Try.prog 10 #[.pointer (some ⟨vb, 0, none⟩), .int .i64 k, .int .i64 vw, .int .i64 sg] wr fun e w' => e = .returned (.bool (ptC L k vw sg).1) ∧ Rv w vb g c f (ptC L k vw sg).2 w' ∧ Turn (fun j => j = g) wr w' :=
  (cput_any h.vq k vw sg).mono fun _ _ ⟨he, hv, ht⟩ => ⟨he, h.post hv ht, ht⟩
theorem rv_drop (h : Rv w vb g c f L wr) (b : Int) : Calls Try.prog 13 #[.pointer (some ⟨vb, 0, none⟩), .int .i64 b] wr fun e w' => e = .returned (.int .i64 (numC L b : Int)) ∧ Rv w vb g c f (drC L b) w' ∧ Turn (fun j => j = g) wr w' :=
  (cdrop_any h.vq b).mono fun _ _ ⟨he, hv, ht⟩ => ⟨he, h.post hv ht, ht⟩
theorem rv_view (h : Rv w vb g c f L wr) (k : Int) : Calls Try.prog 20 #[.pointer (some ⟨vb, 0, none⟩), .int .i64 k] wr fun e w' => e = .returned (.tuple #[.int .i64 (vwC (atC L k)), .bool (atC L k).isSome]) ∧ Below wr.heap.size wr w' ∧ Rv w vb g c f L w' :=
  (cview_any h.vq k).mono fun _ _ ⟨he, n, hw⟩ => ⟨he, hw ▸ ⟨rfl, rfl, rfl, Nat.le_refl _, fun _ _ => rfl⟩, hw ▸ h.drewN n⟩
theorem rv_enough (h : Rv w vb g c f L wr) (b : Int) {q : Nat} (hq : (q : Int) = 2 * f + 1) : Calls Try.prog 11 #[.pointer (some ⟨vb, 0, none⟩), .int .i64 b] wr fun e w' => ∃ A c', e = .returned (.tuple #[.slice A (vtsC (enC L b q)).length c', .bool (enC L b q).isSome]) ∧ w'.ownsRow wr.heap.size 35 2 (.slice A (vtsC (enC L b q)).length c') (vtsC (enC L b q)).length (voteCells (vtsC (enC L b q))) ∧ Below wr.heap.size wr w' ∧ Rv w vb g c f L w' :=
  (cenough_any h.vq b hq).mono fun _ _ ⟨u, he, ho, hb⟩ => by
    obtain ⟨A, c', rfl, -, -⟩ := own_slice ho
    exact ⟨A, c', he, ho, hb, h.below hb⟩
end
def wkC (k : Nat) : List Cw := if k = 0 then [none, none, none, none] else if k = 1 then [some (0, 1), none, none, none] else if k = 2 then [some (0, 1), none, some (0, 2), none] else [some (0, 1), none, some (0, 2), some (0, 3)]
theorem wk_put : ptC (wkC 0) 0 0 1 = (true, wkC 1) ∧ ptC (wkC 1) 2 0 2 = (true, wkC 2) ∧ ptC (wkC 2) 3 0 3 = (true, wkC 3) := by decide +kernel
theorem wk_en : enC (wkC 3) 0 3 = some [⟨0, 1⟩, ⟨2, 2⟩, ⟨3, 3⟩] := by decide +kernel
set_option maxHeartbeats 1000000 in
theorem wakes16_any (w : World) : Calls Try.prog 14 #[] w fun e w' => e = .returned (.bool true) ∧ Below w.heap.size w w' := by
  obtain ⟨p1, p2, p3⟩ := wk_put
  go_enter Try.func14, Try.ntmps14
  go_wp2_with fail
  refine (rv_new (f := 1) (n := 4) (by omega) (by omega) (by omega) w w (Below.refl _ _)).mono ?_
  rintro e w1 ⟨vb, g, c, rfl, hR, -, -, -⟩
  have HR := Lib.hid (show Rv w vb g c 1 (wkC 0) w1 from hR)
  clear hR
  have HP1 := Lib.hid (rv_put HR.out 0 0 1)
  rw [p1] at HP1
  go_wp2_with fail
  refine HP1.out.mono ?_
  rintro e w2 ⟨rfl, hR, -⟩
  have HR2 := Lib.hid hR
  clear hR
  have HP2 := Lib.hid (rv_put HR2.out 2 0 2)
  rw [p2] at HP2
  go_wp2_with fail
  refine HP2.out.mono ?_
  rintro e w3 ⟨rfl, hR, -⟩
  have HR3 := Lib.hid hR
  clear hR
  have HP3 := Lib.hid (rv_put HR3.out 3 0 3)
  rw [p3] at HP3
  go_wp2_with fail
  refine HP3.out.mono ?_
  rintro e w4 ⟨rfl, hR, -⟩
  have HR4 := Lib.hid hR
  clear hR
  have HE := Lib.hid (rv_enough HR4.out 0 (q := 3) (by omega))
  rw [wk_en] at HE
  go_wp2_with fail
  refine HE.out.mono ?_
  rintro e w5 ⟨A, c', rfl, -, -, hR⟩
  have HR5 := Lib.hid hR
  clear hR
  go_wp2_with fail
  go_ret
  exact ⟨rfl, HR5.out.low⟩
end Go.Proofs.Ytfbipebijelfjaa
