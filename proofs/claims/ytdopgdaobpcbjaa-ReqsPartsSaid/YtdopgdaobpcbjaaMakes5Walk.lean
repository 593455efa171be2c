/- The walk of ReqsMakes: it returns true for any numbers and any operation. (Asks for reqs' contracts as ReqLaws.) -/
import Derived.Test.YtdopgdaobpcbjaaValid5Walk
namespace Go.Proofs.Ytdopgdaobpcbjaa
open Go.RowKit

theorem sealed_made {r : Rq} {n : Int} {bs : List Int} (hv : validS r n = true) (hb : bodyS r = some bs) : sealedS (r.with 1) n [(100 + r.cl, strOfNums bs)] = true := by
  have h1 : validS (r.with 1) n = true := by
    have := of_decide_eq_true hv
    exact decide_eq_true (by unfold Rq.with; simp only; omega)
  have h2 : bodyS (r.with 1) = some bs := hb
  rw [sealedS_some h1 h2]
  unfold checkS findS idx
  simp [Rq.with]
theorem lenN_any {w : World} {nb bm : Nat} {l : List Deed} (h : Nt w nb bm l) (n : Nat) (hn : l.length = n) :
    Calls Try.prog 28 #[.pointer (some ⟨nb, 0, none⟩)] w fun e w' => e = .returned (.int .i64 n) ∧ w = w' := by
  subst hn
  exact len_any h
theorem fits_with {r : Rq} (h : r.Fits) (s : Int) (hs : fit s) : (r.with s).Fits := ⟨h.cl, h.tm, h.kd, h.ky, h.vl, hs⟩
/-- Two boxes with requests, that stand. -/
def Bxs (g1 g2 : Nat) (a b : Array Value) (w : World) : Prop := Blk w g1 34 a ∧ Blk w g2 34 b
theorem Bxs.below {g1 g2 : Nat} {a b : Array Value} {w w' : World} (h : Bxs g1 g2 a b w) (hb : Below w.heap.size w w') : Bxs g1 g2 a b w' := ⟨h.1.below hb h.1.lt, h.2.below hb h.2.lt⟩
set_option maxHeartbeats 4000000 in
set_option maxRecDepth 100000 in
theorem reqsMakes_walk (M : ReqLaws) (n cl tm k y v : Int) (w : World) (w0 : fit n) (w1 : fit cl) (w2 : fit tm) (w3 : fit k) (w4 : fit y) (w5 : fit v) :
    Calls Try.prog 6 #[.int .i64 n, .int .i64 cl, .int .i64 tm, .agg #[.int .i64 k, .int .i64 y, .int .i64 v]] w fun e w' => e = .returned (.bool true) ∧ Below w.heap.size w w' := by
  have HM := Lib.hid M
  have f0 : fit 0 := fit_small (by decide) (by decide)
  have HF0 := Lib.hid f0
  have HFr := Lib.hid (show (Rq.mk cl tm k y v 0).Fits from ⟨w1, w2, w3, w4, w5, f0⟩)
  have HB0 := Lib.hid (show Below w.heap.size w (w.alloc (.cells #[.int .i64 k, .int .i64 y, .int .i64 v] 32)) from (Below.refl _ _).alloc (Nat.le_refl _) _)
  have HO0 := Lib.hid (show Blk (w.alloc (.cells #[.int .i64 k, .int .i64 y, .int .i64 v] 32)) w.heap.size 32 #[.int .i64 k, .int .i64 y, .int .i64 v] from Blk.new _ _ _)
  have HNs : n ≤ 1073741824 ∨ 1073741824 < n := by omega
  have HFn := Lib.hid w0
  clear M w0 w1 w2 w3 w4 w5 f0
  rcases HNs with hn | hn
  · have HFN := Lib.hid (show fit n from HFn.out)
    obtain ⟨w0, hw0⟩ : ∃ w0, w.alloc (.cells #[.int .i64 k, .int .i64 y, .int .i64 v] 32) = w0 := ⟨_, rfl⟩
    rw [hw0] at HB0 HO0
    go_enter Try.func6, Try.ntmps6
    go_wp2_with fail
    refine (new_any _).mono ?_
    rintro e w1 ⟨nb, bm, rfl, hN1, hnb, hbm, hb1⟩
    have HN1 := Lib.hid hN1
    have HB1 := Lib.hid (HB0.out.trans (hb1.mono HB0.out.size))
    have HO1 := Lib.hid (HO0.out.below hb1 HO0.out.lt)
    have HZ := Lib.hid HB0.out.size
    have hg := HO0.out.lt
    obtain ⟨g, hg0⟩ : ∃ g, w.heap.size = g := ⟨_, rfl⟩
    have HG := Lib.hid hg0
    rw [hg0] at HO1 hg
    have o0 := HO1.out.cell 0
    have o1 := HO1.out.cell 1
    have o2 := HO1.out.cell 2
    simp only [List.getElem?_toArray, List.getElem?_cons_zero, List.getElem?_cons_succ] at o0 o1 o2
    have hbm2 : g ≤ bm := by omega
    have hgb : g ≠ bm := by omega
    clear hN1 hb1 hw0 HB0 HO0
    rw [hg0]
    clear hg0 hg hnb hbm
    go_wp2_with fail
    refine (HM.out.make HN1.out (by simp) ⟨cl, tm, k, y, v, 0⟩ HFr.out rfl n HFN.out (by omega)).mono ?_
    rintro e w2 (⟨hv, bs, hbs, rfl, hN2, ht2⟩ | ⟨hv, rfl, hN2, hb2⟩)
    · dsimp only
      rw [sealS_one]
      rw [sealed_one] at hN2
      have HB2 := Lib.hid (below_turn HB1.out HB1.out.size ht2 (by rw [HG.out]; exact hbm2))
      have HN2 := Lib.hid hN2
      have hblk := ht2.blk HO1.out hgb
      have HO2 := Lib.hid hblk
      have p0 := hblk.cell 0
      have p1 := hblk.cell 1
      have p2 := hblk.cell 2
      simp only [List.getElem?_toArray, List.getElem?_cons_zero, List.getElem?_cons_succ] at p0 p1 p2
      have HV := Lib.hid (fun w => rvalid_any ⟨cl, tm, k, y, v, 0⟩ n w)
      rw [hv] at HV
      have HSd := Lib.hid (sealed_made hv hbs)
      have hsz : g < w2.heap.size := hblk.lt
      clear hv hbs hN2 ht2 hblk o0 o1 o2
      go_wp2_with fail
      have HX := Lib.hid (show Bxs w2.heap.size (w2.heap.size + 1) #[.int .i64 cl, .int .i64 tm, .int .i64 k, .int .i64 y, .int .i64 v, .int .i64 1] #[.int .i64 cl, .int .i64 tm, .int .i64 k, .int .i64 y, .int .i64 v, .int .i64 0] ((w2.alloc (.cells #[.int .i64 cl, .int .i64 tm, .int .i64 k, .int .i64 y, .int .i64 v, .int .i64 1] 34)).alloc (.cells #[.int .i64 cl, .int .i64 tm, .int .i64 k, .int .i64 y, .int .i64 v, .int .i64 0] 34)) from ⟨(Blk.new w2 _ _).alloc _, Blk.new1 w2 _ _ _⟩)
      have HB3 := Lib.hid (show Below w.heap.size w ((w2.alloc (.cells #[.int .i64 cl, .int .i64 tm, .int .i64 k, .int .i64 y, .int .i64 v, .int .i64 1] 34)).alloc (.cells #[.int .i64 cl, .int .i64 tm, .int .i64 k, .int .i64 y, .int .i64 v, .int .i64 0] 34)) from (HB2.out.alloc HB2.out.size _).alloc (by have := HB2.out.size; simp; omega) _)
      have HN3 := Lib.hid (show Nt ((w2.alloc (.cells #[.int .i64 cl, .int .i64 tm, .int .i64 k, .int .i64 y, .int .i64 v, .int .i64 1] 34)).alloc (.cells #[.int .i64 cl, .int .i64 tm, .int .i64 k, .int .i64 y, .int .i64 v, .int .i64 0] 34)) nb bm _ from HN2.out.below (((Below.refl _ _).alloc (Nat.le_refl _) _).alloc (by simp) _))
      obtain ⟨w3, hw3⟩ : ∃ w3, (w2.alloc (.cells #[.int .i64 cl, .int .i64 tm, .int .i64 k, .int .i64 y, .int .i64 v, .int .i64 1] 34)).alloc (.cells #[.int .i64 cl, .int .i64 tm, .int .i64 k, .int .i64 y, .int .i64 v, .int .i64 0] 34) = w3 := ⟨_, rfl⟩
      rw [hw3] at HX HB3 HN3
      first | rw [hw3] | skip
      obtain ⟨g1, hg1⟩ : ∃ g1, w2.heap.size = g1 := ⟨_, rfl⟩
      obtain ⟨g2, hg2⟩ : ∃ g2, w2.heap.size + 1 = g2 := ⟨_, rfl⟩
      rw [hg2, hg1] at HX ⊢
      have HNl := Lib.hid HN2.out.lt
      have HBz := Lib.hid HB2.out.size
      clear hw3 HN2 HB2 p0 p1 p2 hsz
      have hg12 : g1 ≠ g2 := by omega
      have hnb2 : nb ≠ g2 := by have := HNl.out.1; omega
      have hbm3 : bm ≠ g2 := by have := HNl.out.2; omega
      have hwg2 : w.heap.size ≤ g2 := by have := HBz.out; omega
      clear hg1 hg2
      refine (HV.out _).mono ?_
      rintro e w4 ⟨rfl, hb4⟩
      have hx4 := HX.out.below hb4
      have HB4 := Lib.hid (HB3.out.trans (hb4.mono HB3.out.size))
      have HN4 := Lib.hid (HN3.out.below hb4)
      have HX4 := Lib.hid hx4
      have c0 := hx4.1.cell 0
      have c1 := hx4.1.cell 1
      have c2 := hx4.1.cell 2
      have c3 := hx4.1.cell 3
      have c4 := hx4.1.cell 4
      have c5 := hx4.1.cell 5
      have d0 := hx4.2.cell 0
      have d1 := hx4.2.cell 1
      have d2 := hx4.2.cell 2
      have d3 := hx4.2.cell 3
      have d4 := hx4.2.cell 4
      have d5 := hx4.2.cell 5
      have f5 := hx4.2.frozen 5
      simp only [List.getElem?_toArray, List.getElem?_cons_zero, List.getElem?_cons_succ] at c0 c1 c2 c3 c4 c5 d0 d1 d2 d3 d4 d5
      clear hx4 hb4
      have G := fun (w : World) => guard_req .eql (.tmp 54) (.tmp 55) #[.int .i64 cl, .int .i64 tm, .int .i64 k, .int .i64 y, .int .i64 v, .int .i64 1] #[.int .i64 cl, .int .i64 tm, .int .i64 k, .int .i64 y, .int .i64 v, .int .i64 1] w
      have E := fun (w : World) => eql_req (x := ⟨cl, tm, k, y, v, 1⟩) (y := ⟨cl, tm, k, y, v, 1⟩) (r := true) (by simp) w
      dsimp only at E
      go_wp2_with fail
      have HN5 := Lib.hid (HN4.out.kept ((Turn.refl (fun k => k = g2) w4).set_ ⟨g2, 5, none⟩ (.int .i64 1) rfl) hnb2 hbm3)
      have HB5 := Lib.hid (HB4.out.setCell (p := ⟨g2, 5, none⟩) hwg2 (.int .i64 1))
      obtain ⟨w5, hw5⟩ : ∃ w5, w4.setCell ⟨g2, 5, none⟩ (.int .i64 1) = w5 := ⟨_, rfl⟩
      rw [hw5] at HN5 HB5 ⊢
      clear hw5 G E
      have HSl := Lib.hid (HM.out.sealed HN5.out ⟨cl, tm, k, y, v, 1⟩ (fits_with HFr.out 1 (fit_small (by decide) (by decide))) n HFN.out)
      rw [show sealedS ⟨cl, tm, k, y, v, 1⟩ n _ = true from HSd.out] at HSl
      refine HSl.out.mono ?_
      rintro e w6 ⟨rfl, hb6⟩
      have HN6 := Lib.hid (HN5.out.below hb6)
      have HB6 := Lib.hid (HB5.out.trans (hb6.mono HB5.out.size))
      clear hb6
      go_wp2_with fail
      refine (lenN_any HN6.out 1 rfl).mono ?_
      rintro e w7 ⟨rfl, rfl⟩
      go_wp2_with fail
      refine (wakes5_any HM.out _).mono ?_
      rintro e w8 ⟨rfl, hb8⟩
      have HB8 := Lib.hid (HB6.out.trans (hb8.mono HB6.out.size))
      clear hb8
      go_wp2_with fail
      go_ret
      exact ⟨rfl, HB8.out⟩
    · have HB2 := Lib.hid (HB1.out.trans (hb2.mono HB1.out.size))
      have HN2 := Lib.hid hN2
      have hblk := HO1.out.below hb2 HO1.out.lt
      have p0 := hblk.cell 0
      have p1 := hblk.cell 1
      have p2 := hblk.cell 2
      simp only [List.getElem?_toArray, List.getElem?_cons_zero, List.getElem?_cons_succ] at p0 p1 p2
      have HV := Lib.hid (fun w => rvalid_any ⟨cl, tm, k, y, v, 0⟩ n w)
      rw [hv] at HV
      have hsz : g < w2.heap.size := hblk.lt
      clear hv hN2 hb2 hblk o0 o1 o2
      go_wp2_with fail
      have HX := Lib.hid (show Bxs w2.heap.size (w2.heap.size + 1) #[.int .i64 0, .int .i64 0, .int .i64 0, .int .i64 0, .int .i64 0, .int .i64 0] #[.int .i64 cl, .int .i64 tm, .int .i64 k, .int .i64 y, .int .i64 v, .int .i64 0] ((w2.alloc (.cells #[.int .i64 0, .int .i64 0, .int .i64 0, .int .i64 0, .int .i64 0, .int .i64 0] 34)).alloc (.cells #[.int .i64 cl, .int .i64 tm, .int .i64 k, .int .i64 y, .int .i64 v, .int .i64 0] 34)) from ⟨(Blk.new w2 _ _).alloc _, Blk.new1 w2 _ _ _⟩)
      have HB3 := Lib.hid (show Below w.heap.size w ((w2.alloc (.cells #[.int .i64 0, .int .i64 0, .int .i64 0, .int .i64 0, .int .i64 0, .int .i64 0] 34)).alloc (.cells #[.int .i64 cl, .int .i64 tm, .int .i64 k, .int .i64 y, .int .i64 v, .int .i64 0] 34)) from (HB2.out.alloc HB2.out.size _).alloc (by have := HB2.out.size; simp; omega) _)
      have HN3 := Lib.hid (show Nt ((w2.alloc (.cells #[.int .i64 0, .int .i64 0, .int .i64 0, .int .i64 0, .int .i64 0, .int .i64 0] 34)).alloc (.cells #[.int .i64 cl, .int .i64 tm, .int .i64 k, .int .i64 y, .int .i64 v, .int .i64 0] 34)) nb bm _ from HN2.out.below (((Below.refl _ _).alloc (Nat.le_refl _) _).alloc (by simp) _))
      obtain ⟨w3, hw3⟩ : ∃ w3, (w2.alloc (.cells #[.int .i64 0, .int .i64 0, .int .i64 0, .int .i64 0, .int .i64 0, .int .i64 0] 34)).alloc (.cells #[.int .i64 cl, .int .i64 tm, .int .i64 k, .int .i64 y, .int .i64 v, .int .i64 0] 34) = w3 := ⟨_, rfl⟩
      rw [hw3] at HX HB3 HN3
      first | rw [hw3] | skip
      obtain ⟨g1, hg1⟩ : ∃ g1, w2.heap.size = g1 := ⟨_, rfl⟩
      obtain ⟨g2, hg2⟩ : ∃ g2, w2.heap.size + 1 = g2 := ⟨_, rfl⟩
      rw [hg2, hg1] at HX ⊢
      clear hw3 HN2 HB2 p0 p1 p2 hsz
      clear hg1 hg2
      refine (HV.out _).mono ?_
      rintro e w4 ⟨rfl, hb4⟩
      have hx4 := HX.out.below hb4
      have HB4 := Lib.hid (HB3.out.trans (hb4.mono HB3.out.size))
      have HN4 := Lib.hid (HN3.out.below hb4)
      have c0 := hx4.1.cell 0
      have c1 := hx4.1.cell 1
      have c2 := hx4.1.cell 2
      have c3 := hx4.1.cell 3
      have c4 := hx4.1.cell 4
      have c5 := hx4.1.cell 5
      simp only [List.getElem?_toArray, List.getElem?_cons_zero, List.getElem?_cons_succ] at c0 c1 c2 c3 c4 c5
      clear hx4 hb4
      have G := fun (w : World) => guard_req .eql (.tmp 38) (.tmp 39) #[.int .i64 0, .int .i64 0, .int .i64 0, .int .i64 0, .int .i64 0, .int .i64 0] #[.int .i64 0, .int .i64 0, .int .i64 0, .int .i64 0, .int .i64 0, .int .i64 0] w
      have E := fun (w : World) => eql_req (x := zeroR) (y := zeroR) (r := true) (by simp) w
      dsimp only [zeroR] at E
      go_wp2_with fail
      refine (lenN_any HN4.out 0 rfl).mono ?_
      rintro e w7 ⟨rfl, rfl⟩
      clear G E
      go_wp2_with fail
      refine (wakes5_any HM.out _).mono ?_
      rintro e w8 ⟨rfl, hb8⟩
      have HB8 := Lib.hid (HB4.out.trans (hb8.mono HB4.out.size))
      clear hb8
      go_wp2_with fail
      go_ret
      exact ⟨rfl, HB8.out⟩
  · have HFN := Lib.hid (show fit 1073741824 from fit_small (by decide) (by decide))
    obtain ⟨w0, hw0⟩ : ∃ w0, w.alloc (.cells #[.int .i64 k, .int .i64 y, .int .i64 v] 32) = w0 := ⟨_, rfl⟩
    rw [hw0] at HB0 HO0
    go_enter Try.func6, Try.ntmps6
    go_wp2_with fail
    refine (new_any _).mono ?_
    rintro e w1 ⟨nb, bm, rfl, hN1, hnb, hbm, hb1⟩
    have HN1 := Lib.hid hN1
    have HB1 := Lib.hid (HB0.out.trans (hb1.mono HB0.out.size))
    have HO1 := Lib.hid (HO0.out.below hb1 HO0.out.lt)
    have HZ := Lib.hid HB0.out.size
    have hg := HO0.out.lt
    obtain ⟨g, hg0⟩ : ∃ g, w.heap.size = g := ⟨_, rfl⟩
    have HG := Lib.hid hg0
    rw [hg0] at HO1 hg
    have o0 := HO1.out.cell 0
    have o1 := HO1.out.cell 1
    have o2 := HO1.out.cell 2
    simp only [List.getElem?_toArray, List.getElem?_cons_zero, List.getElem?_cons_succ] at o0 o1 o2
    have hbm2 : g ≤ bm := by omega
    have hgb : g ≠ bm := by omega
    clear hN1 hb1 hw0 HB0 HO0
    rw [hg0]
    clear hg0 hg hnb hbm
    go_wp2_with fail
    refine (HM.out.make HN1.out (by simp) ⟨cl, tm, k, y, v, 0⟩ HFr.out rfl 1073741824 HFN.out (by omega)).mono ?_
    rintro e w2 (⟨hv, bs, hbs, rfl, hN2, ht2⟩ | ⟨hv, rfl, hN2, hb2⟩)
    · dsimp only
      rw [sealS_one]
      rw [sealed_one] at hN2
      have HB2 := Lib.hid (below_turn HB1.out HB1.out.size ht2 (by rw [HG.out]; exact hbm2))
      have HN2 := Lib.hid hN2
      have hblk := ht2.blk HO1.out hgb
      have HO2 := Lib.hid hblk
      have p0 := hblk.cell 0
      have p1 := hblk.cell 1
      have p2 := hblk.cell 2
      simp only [List.getElem?_toArray, List.getElem?_cons_zero, List.getElem?_cons_succ] at p0 p1 p2
      have HV := Lib.hid (fun w => rvalid_any ⟨cl, tm, k, y, v, 0⟩ 1073741824 w)
      rw [hv] at HV
      have HSd := Lib.hid (sealed_made hv hbs)
      have hsz : g < w2.heap.size := hblk.lt
      clear hv hbs hN2 ht2 hblk o0 o1 o2
      go_wp2_with fail
      have HX := Lib.hid (show Bxs w2.heap.size (w2.heap.size + 1) #[.int .i64 cl, .int .i64 tm, .int .i64 k, .int .i64 y, .int .i64 v, .int .i64 1] #[.int .i64 cl, .int .i64 tm, .int .i64 k, .int .i64 y, .int .i64 v, .int .i64 0] ((w2.alloc (.cells #[.int .i64 cl, .int .i64 tm, .int .i64 k, .int .i64 y, .int .i64 v, .int .i64 1] 34)).alloc (.cells #[.int .i64 cl, .int .i64 tm, .int .i64 k, .int .i64 y, .int .i64 v, .int .i64 0] 34)) from ⟨(Blk.new w2 _ _).alloc _, Blk.new1 w2 _ _ _⟩)
      have HB3 := Lib.hid (show Below w.heap.size w ((w2.alloc (.cells #[.int .i64 cl, .int .i64 tm, .int .i64 k, .int .i64 y, .int .i64 v, .int .i64 1] 34)).alloc (.cells #[.int .i64 cl, .int .i64 tm, .int .i64 k, .int .i64 y, .int .i64 v, .int .i64 0] 34)) from (HB2.out.alloc HB2.out.size _).alloc (by have := HB2.out.size; simp; omega) _)
      have HN3 := Lib.hid (show Nt ((w2.alloc (.cells #[.int .i64 cl, .int .i64 tm, .int .i64 k, .int .i64 y, .int .i64 v, .int .i64 1] 34)).alloc (.cells #[.int .i64 cl, .int .i64 tm, .int .i64 k, .int .i64 y, .int .i64 v, .int .i64 0] 34)) nb bm _ from HN2.out.below (((Below.refl _ _).alloc (Nat.le_refl _) _).alloc (by simp) _))
      obtain ⟨w3, hw3⟩ : ∃ w3, (w2.alloc (.cells #[.int .i64 cl, .int .i64 tm, .int .i64 k, .int .i64 y, .int .i64 v, .int .i64 1] 34)).alloc (.cells #[.int .i64 cl, .int .i64 tm, .int .i64 k, .int .i64 y, .int .i64 v, .int .i64 0] 34) = w3 := ⟨_, rfl⟩
      rw [hw3] at HX HB3 HN3
      first | rw [hw3] | skip
      obtain ⟨g1, hg1⟩ : ∃ g1, w2.heap.size = g1 := ⟨_, rfl⟩
      obtain ⟨g2, hg2⟩ : ∃ g2, w2.heap.size + 1 = g2 := ⟨_, rfl⟩
      rw [hg2, hg1] at HX ⊢
      have HNl := Lib.hid HN2.out.lt
      have HBz := Lib.hid HB2.out.size
      clear hw3 HN2 HB2 p0 p1 p2 hsz
      have hg12 : g1 ≠ g2 := by omega
      have hnb2 : nb ≠ g2 := by have := HNl.out.1; omega
      have hbm3 : bm ≠ g2 := by have := HNl.out.2; omega
      have hwg2 : w.heap.size ≤ g2 := by have := HBz.out; omega
      clear hg1 hg2
      refine (HV.out _).mono ?_
      rintro e w4 ⟨rfl, hb4⟩
      have hx4 := HX.out.below hb4
      have HB4 := Lib.hid (HB3.out.trans (hb4.mono HB3.out.size))
      have HN4 := Lib.hid (HN3.out.below hb4)
      have HX4 := Lib.hid hx4
      have c0 := hx4.1.cell 0
      have c1 := hx4.1.cell 1
      have c2 := hx4.1.cell 2
      have c3 := hx4.1.cell 3
      have c4 := hx4.1.cell 4
      have c5 := hx4.1.cell 5
      have d0 := hx4.2.cell 0
      have d1 := hx4.2.cell 1
      have d2 := hx4.2.cell 2
      have d3 := hx4.2.cell 3
      have d4 := hx4.2.cell 4
      have d5 := hx4.2.cell 5
      have f5 := hx4.2.frozen 5
      simp only [List.getElem?_toArray, List.getElem?_cons_zero, List.getElem?_cons_succ] at c0 c1 c2 c3 c4 c5 d0 d1 d2 d3 d4 d5
      clear hx4 hb4
      have G := fun (w : World) => guard_req .eql (.tmp 54) (.tmp 55) #[.int .i64 cl, .int .i64 tm, .int .i64 k, .int .i64 y, .int .i64 v, .int .i64 1] #[.int .i64 cl, .int .i64 tm, .int .i64 k, .int .i64 y, .int .i64 v, .int .i64 1] w
      have E := fun (w : World) => eql_req (x := ⟨cl, tm, k, y, v, 1⟩) (y := ⟨cl, tm, k, y, v, 1⟩) (r := true) (by simp) w
      dsimp only at E
      go_wp2_with fail
      have HN5 := Lib.hid (HN4.out.kept ((Turn.refl (fun k => k = g2) w4).set_ ⟨g2, 5, none⟩ (.int .i64 1) rfl) hnb2 hbm3)
      have HB5 := Lib.hid (HB4.out.setCell (p := ⟨g2, 5, none⟩) hwg2 (.int .i64 1))
      obtain ⟨w5, hw5⟩ : ∃ w5, w4.setCell ⟨g2, 5, none⟩ (.int .i64 1) = w5 := ⟨_, rfl⟩
      rw [hw5] at HN5 HB5 ⊢
      clear hw5 G E
      have HSl := Lib.hid (HM.out.sealed HN5.out ⟨cl, tm, k, y, v, 1⟩ (fits_with HFr.out 1 (fit_small (by decide) (by decide))) 1073741824 HFN.out)
      rw [show sealedS ⟨cl, tm, k, y, v, 1⟩ 1073741824 _ = true from HSd.out] at HSl
      refine HSl.out.mono ?_
      rintro e w6 ⟨rfl, hb6⟩
      have HN6 := Lib.hid (HN5.out.below hb6)
      have HB6 := Lib.hid (HB5.out.trans (hb6.mono HB5.out.size))
      clear hb6
      go_wp2_with fail
      refine (lenN_any HN6.out 1 rfl).mono ?_
      rintro e w7 ⟨rfl, rfl⟩
      go_wp2_with fail
      refine (wakes5_any HM.out _).mono ?_
      rintro e w8 ⟨rfl, hb8⟩
      have HB8 := Lib.hid (HB6.out.trans (hb8.mono HB6.out.size))
      clear hb8
      go_wp2_with fail
      go_ret
      exact ⟨rfl, HB8.out⟩
    · have HB2 := Lib.hid (HB1.out.trans (hb2.mono HB1.out.size))
      have HN2 := Lib.hid hN2
      have hblk := HO1.out.below hb2 HO1.out.lt
      have p0 := hblk.cell 0
      have p1 := hblk.cell 1
      have p2 := hblk.cell 2
      simp only [List.getElem?_toArray, List.getElem?_cons_zero, List.getElem?_cons_succ] at p0 p1 p2
      have HV := Lib.hid (fun w => rvalid_any ⟨cl, tm, k, y, v, 0⟩ 1073741824 w)
      rw [hv] at HV
      have hsz : g < w2.heap.size := hblk.lt
      clear hv hN2 hb2 hblk o0 o1 o2
      go_wp2_with fail
      have HX := Lib.hid (show Bxs w2.heap.size (w2.heap.size + 1) #[.int .i64 0, .int .i64 0, .int .i64 0, .int .i64 0, .int .i64 0, .int .i64 0] #[.int .i64 cl, .int .i64 tm, .int .i64 k, .int .i64 y, .int .i64 v, .int .i64 0] ((w2.alloc (.cells #[.int .i64 0, .int .i64 0, .int .i64 0, .int .i64 0, .int .i64 0, .int .i64 0] 34)).alloc (.cells #[.int .i64 cl, .int .i64 tm, .int .i64 k, .int .i64 y, .int .i64 v, .int .i64 0] 34)) from ⟨(Blk.new w2 _ _).alloc _, Blk.new1 w2 _ _ _⟩)
      have HB3 := Lib.hid (show Below w.heap.size w ((w2.alloc (.cells #[.int .i64 0, .int .i64 0, .int .i64 0, .int .i64 0, .int .i64 0, .int .i64 0] 34)).alloc (.cells #[.int .i64 cl, .int .i64 tm, .int .i64 k, .int .i64 y, .int .i64 v, .int .i64 0] 34)) from (HB2.out.alloc HB2.out.size _).alloc (by have := HB2.out.size; simp; omega) _)
      have HN3 := Lib.hid (show Nt ((w2.alloc (.cells #[.int .i64 0, .int .i64 0, .int .i64 0, .int .i64 0, .int .i64 0, .int .i64 0] 34)).alloc (.cells #[.int .i64 cl, .int .i64 tm, .int .i64 k, .int .i64 y, .int .i64 v, .int .i64 0] 34)) nb bm _ from HN2.out.below (((Below.refl _ _).alloc (Nat.le_refl _) _).alloc (by simp) _))
      obtain ⟨w3, hw3⟩ : ∃ w3, (w2.alloc (.cells #[.int .i64 0, .int .i64 0, .int .i64 0, .int .i64 0, .int .i64 0, .int .i64 0] 34)).alloc (.cells #[.int .i64 cl, .int .i64 tm, .int .i64 k, .int .i64 y, .int .i64 v, .int .i64 0] 34) = w3 := ⟨_, rfl⟩
      rw [hw3] at HX HB3 HN3
      first | rw [hw3] | skip
      obtain ⟨g1, hg1⟩ : ∃ g1, w2.heap.size = g1 := ⟨_, rfl⟩
      obtain ⟨g2, hg2⟩ : ∃ g2, w2.heap.size + 1 = g2 := ⟨_, rfl⟩
      rw [hg2, hg1] at HX ⊢
      clear hw3 HN2 HB2 p0 p1 p2 hsz
      clear hg1 hg2
      refine (HV.out _).mono ?_
      rintro e w4 ⟨rfl, hb4⟩
      have hx4 := HX.out.below hb4
      have HB4 := Lib.hid (HB3.out.trans (hb4.mono HB3.out.size))
      have HN4 := Lib.hid (HN3.out.below hb4)
      have c0 := hx4.1.cell 0
      have c1 := hx4.1.cell 1
      have c2 := hx4.1.cell 2
      have c3 := hx4.1.cell 3
      have c4 := hx4.1.cell 4
      have c5 := hx4.1.cell 5
      simp only [List.getElem?_toArray, List.getElem?_cons_zero, List.getElem?_cons_succ] at c0 c1 c2 c3 c4 c5
      clear hx4 hb4
      have G := fun (w : World) => guard_req .eql (.tmp 38) (.tmp 39) #[.int .i64 0, .int .i64 0, .int .i64 0, .int .i64 0, .int .i64 0, .int .i64 0] #[.int .i64 0, .int .i64 0, .int .i64 0, .int .i64 0, .int .i64 0, .int .i64 0] w
      have E := fun (w : World) => eql_req (x := zeroR) (y := zeroR) (r := true) (by simp) w
      dsimp only [zeroR] at E
      go_wp2_with fail
      refine (lenN_any HN4.out 0 rfl).mono ?_
      rintro e w7 ⟨rfl, rfl⟩
      clear G E
      go_wp2_with fail
      refine (wakes5_any HM.out _).mono ?_
      rintro e w8 ⟨rfl, hb8⟩
      have HB8 := Lib.hid (HB4.out.trans (hb8.mono HB4.out.size))
      clear hb8
      go_wp2_with fail
      go_ret
      exact ⟨rfl, HB8.out⟩
end Go.Proofs.Ytdopgdaobpcbjaa
