/- psephoslaw11's do: an act of a cache and of the plain one; they answer alike. -/
import Derived.Test.YtibpleemclokiaaCachePl
import Derived.Deep.DeepCutAuto
import Derived.Deep.RegionHeld3
namespace Go.Proofs.Ytibpleemclokiaa
open Go.RowKit Go.Maps
set_option linter.unusedSimpArgs false

/-- A cache and the plain one. -/
structure Jc (w : World) (cb g c pb : Nat) (L : List (Int × Int)) (wr : World) : Prop where
  r : Rc w cb g c L wr
  p : Pl wr pb L
  lp : w.heap.size ≤ pb
  n1 : pb ≠ cb
  n2 : pb ≠ g
section
variable {w wr wz : World} {cb g c pb : Nat} {L : List (Int × Int)}
theorem Jc.drewN (h : Jc w cb g c pb L wr) (n : Nat) : Jc w cb g c pb L (wr.drewN n) := ⟨h.r.drewN n, h.p.drewN n, h.lp, h.n1, h.n2⟩
theorem Jc.below (h : Jc w cb g c pb L wr) (hb : Below wr.heap.size wr wz) : Jc w cb g c pb L wz := ⟨h.r.below hb, h.p.below hb (Blk.lt h.p), h.lp, h.n1, h.n2⟩
theorem Rc.turned {h2 : Nat} (h : Rc w cb g c L wr) (ht : Turn (fun j => j = h2) wr wz) (h1 : cb ≠ h2) (h3 : g ≠ h2) (hl : w.heap.size ≤ h2) : Rc w cb g c L wz :=
  ⟨h.ch.kept ht h1 h3, h.lc, h.lg, h.late, h.low.trans (ht.below h.low.size (fun k hk e => by omega))⟩
/-- Put where it does nothing to the plain one. -/
theorem Jc.no (h : Jc w cb g c pb L wr) {k t r : Int} (hn : (putS L k t r).1 = false) (hc : Ch wz cb g c (putS L k t r).2) (ht : Turn (fun j => j = g) wr wz) : Jc w cb g c pb L wz := by
  have hr := h.r.put hc ht
  obtain ⟨b, L', hp⟩ : ∃ b L', putS L k t r = (b, L') := ⟨_, _, rfl⟩
  rw [hp] at hn hr
  obtain rfl : b = false := hn
  rw [putS_no hp] at hr
  exact ⟨hr, ht.blk h.p h.n2, h.lp, h.n1, h.n2⟩
end
theorem putS_is {L : List (Int × Int)} {k : Nat} (hk : k < L.length) (t r : Int) : putS L k t r = if (atL L k).1 < t then (true, L.set k (t, r)) else (false, L) := by
  unfold putS
  by_cases h : (atL L k).1 < t
  · rw [if_pos ⟨⟨by omega, by omega⟩, h⟩, if_pos h, Int.toNat_natCast]
  · rw [if_neg (fun e => h e.2), if_neg h]
theorem putS_out {L : List (Int × Int)} {k : Int} (hk : ¬ (0 ≤ k ∧ k < L.length)) (t r : Int) : putS L k t r = (false, L) := by
  unfold putS
  rw [if_neg (fun e => hk e.1)]
/-- What do makes of both. -/
def Done (w : World) (cb g c pb : Nat) (L : List (Int × Int)) (wr : World) (e : Ending) (w' : World) : Prop :=
  e = .returned (.bool true) ∧ ∃ L', Jc w cb g c pb L' w' ∧ L'.length = L.length ∧ Turn (fun j => j = g ∨ j = pb) wr w'
set_option maxRecDepth 100000 in
set_option maxHeartbeats 8000000 in
theorem do_in {w wr : World} {cb g c pb : Nat} {L : List (Int × Int)} (h : Jc w cb g c pb L wr) {dd tm rs : Int} {k : Nat} (hk : k < L.length) (hd : fit dd) :
    Calls Try.prog 12 #[.pointer (some ⟨cb, 0, none⟩), .pointer (some ⟨pb, 0, none⟩), .agg #[.int .i64 dd, .int .i64 (k : Int), .int .i64 tm, .int .i64 rs]] wr (Done w cb g c pb L wr) := by
  have h4 := h.r.ch.l4
  have HW := Lib.hid (fun w => within_any dd 4 (by omega) (by omega) (wf_i64 hd).1 (wf_i64 hd).2 w)
  have HJ := Lib.hid h
  have HK := Lib.hid hk
  have HK4 := Lib.hid (show k < 4 by omega)
  obtain ⟨n, hn⟩ : ∃ n, L.length = n := ⟨_, rfl⟩
  have HN := Lib.hid hn
  rw [hn] at hk
  obtain ⟨x, hx⟩ : ∃ x, atL L (k : Int) = x := ⟨_, rfl⟩
  have HX := Lib.hid hx
  obtain ⟨last, res⟩ := x
  have hr : dd % 4 = 0 ∨ dd % 4 = 1 ∨ dd % 4 = 2 ∨ dd % 4 = 3 := by omega
  obtain ⟨r, hrr⟩ : ∃ r, dd % 4 = r := ⟨_, rfl⟩
  rw [hrr] at HW hr
  clear h hd h4 hn hx hrr
  go_enter Try.func12, Try.ntmps12
  go_wp2_with fail
  have hbx := Blk.new wr 30 #[.int .i64 dd, .int .i64 (k : Int), .int .i64 tm, .int .i64 rs]
  have hbw : Below wr.heap.size wr (wr.alloc (.cells #[.int .i64 dd, .int .i64 (k : Int), .int .i64 tm, .int .i64 rs] 30)) := (Below.refl _ _).alloc (Nat.le_refl _) _
  have HJ1 := Lib.hid (HJ.out.below hbw)
  have HB1 := Lib.hid hbx
  have HL1 := Lib.hid hbw
  have hlt := HJ.out.p.lt
  have hlg := HJ.out.r.ch.lt
  obtain ⟨H, hH⟩ : ∃ H, wr.heap.size = H := ⟨_, rfl⟩
  obtain ⟨w1, hw1⟩ : ∃ w1, wr.alloc (.cells #[.int .i64 dd, .int .i64 (k : Int), .int .i64 tm, .int .i64 rs] 30) = w1 := ⟨_, rfl⟩
  rw [hw1] at HJ1 HB1 HL1 ⊢
  rw [hH] at HB1 HL1 hlt hlg ⊢
  have HH := Lib.hid (show pb < H ∧ cb < H ∧ g < H from ⟨hlt, hlg⟩)
  have HHs := Lib.hid hH
  clear hw1 hH hlt hlg hbx hbw
  have CH0 := fun n => (show (w1.drewN n).cell? ⟨H, 0, none⟩ = some (.int .i64 dd) from (HB1.out.drewN n).cell 0)
  have CH1 := fun n => (show (w1.drewN n).cell? ⟨H, 1, none⟩ = some (.int .i64 (k : Int)) from (HB1.out.drewN n).cell 1)
  have CP0 := fun m => (show (w1.drewN m).cell? ⟨pb, 0, none⟩ = some (.int .i64 (n : Int)) from by have := Blk.cell (HJ1.out.p.drewN m) 0; rw [this, ← HN.out]; rfl)
  have CPt := fun m => (show (w1.drewN m).cell? ⟨pb, 1 + k, none⟩ = some (.int .i64 last) from by rw [Blk.cell (HJ1.out.p.drewN m) (1 + k), (plC_at L HK4.out).1, HX.out])
  have CPr := fun m => (show (w1.drewN m).cell? ⟨pb, 5 + k, none⟩ = some (.int .i64 res) from by rw [Blk.cell (HJ1.out.p.drewN m) (5 + k), (plC_at L HK4.out).2, HX.out])
  have gk4 : k < 4 := HK4.out
  go_quiet (fail)
  go_wp2_with fail
  go_region
  go_wp2_with fail
  refine (HW.out _).mono ?_
  rintro e wv ⟨rfl, rfl⟩
  have HJ2 := Lib.hid (HJ1.out.drewN (nq + 1))
  have HB2 := Lib.hid (HB1.out.drewN (nq + 1))
  have HL2 := Lib.hid (show Below H wr (w1.drewN (nq + 1)) from HL1.out.trans ⟨rfl, rfl, rfl, Nat.le_refl _, fun _ _ => rfl⟩)
  obtain ⟨w2, hw2⟩ : ∃ w2, w1.drewN (nq + 1) = w2 := ⟨_, rfl⟩
  rw [hw2] at HJ2 HB2 HL2 ⊢
  clear hw2 CH0 CH1 CP0 CPt CPr HJ1 HB1 HL1 HW
  have d0 := HB2.out.cell 0
  have d1 := HB2.out.cell 1
  have d2 := HB2.out.cell 2
  have d3 := HB2.out.cell 3
  simp only [List.getElem?_toArray, List.getElem?_cons_zero, List.getElem?_cons_succ] at d0 d1 d2 d3
  rcases hr with rfl | rfl | rfl | rfl
  · by_cases hm : last < tm
    · have gm : decide (last < tm) = true := decide_eq_true hm
      go_wp2_with fail
      have f1 := fun j => (show w2.drew.frozen? ⟨pb, j, none⟩ = false from (HJ2.out.p.drewN 1).frozen j)
      have CPt : w2.drew.cell? ⟨pb, 1 + k, none⟩ = some (.int .i64 last) := (Blk.cell HJ2.out.p (1 + k)).trans ((plC_at L HK4.out).1.trans (by rw [HX.out]))
      have CPr : w2.drew.cell? ⟨pb, 5 + k, none⟩ = some (.int .i64 res) := (Blk.cell HJ2.out.p (5 + k)).trans ((plC_at L HK4.out).2.trans (by rw [HX.out]))
      have hbt := Blk.set_ HJ2.out.p (1 + k) (.int .i64 tm)
      have hbr := Blk.set_ HJ2.out.p (5 + k) (.int .i64 rs)
      have f2 : (w2.setCell ⟨pb, 1 + k, none⟩ (.int .i64 tm)).drew.frozen? ⟨pb, 5 + k, none⟩ = false := hbt.frozen _
      have f3 : (w2.setCell ⟨pb, 5 + k, none⟩ (.int .i64 rs)).drew.frozen? ⟨pb, 1 + k, none⟩ = false := hbr.frozen _
      have q2 : (w2.setCell ⟨pb, 1 + k, none⟩ (.int .i64 tm)).drew.cell? ⟨pb, 5 + k, none⟩ = some (.int .i64 res) := (hbt.cell (5 + k)).trans (by rw [Array.getElem?_setIfInBounds_ne (by omega)]; exact (plC_at L HK4.out).2.trans (by rw [HX.out]))
      have q3 : (w2.setCell ⟨pb, 5 + k, none⟩ (.int .i64 rs)).drew.cell? ⟨pb, 1 + k, none⟩ = some (.int .i64 last) := (hbr.cell (1 + k)).trans (by rw [Array.getElem?_setIfInBounds_ne (by omega)]; exact (plC_at L HK4.out).1.trans (by rw [HX.out]))
      have hw3 : Pl ((w2.setCell ⟨pb, 1 + k, none⟩ (.int .i64 tm)).setCell ⟨pb, 5 + k, none⟩ (.int .i64 rs)).drew pb (L.set k (tm, rs)) := by
        unfold Pl
        rw [← plC_put HK.out HJ2.out.r.ch.l4 tm rs]
        exact (hbt.set_ (5 + k) (.int .i64 rs)).drewN 1
      have ht3 : Turn (fun j => j = pb) w2 ((w2.setCell ⟨pb, 1 + k, none⟩ (.int .i64 tm)).setCell ⟨pb, 5 + k, none⟩ (.int .i64 rs)).drew := (((Turn.refl (fun j => j = pb) w2).set_ ⟨pb, 1 + k, none⟩ _ rfl).set_ ⟨pb, 5 + k, none⟩ _ rfl).drewN 1
      have HT3 := Lib.hid ht3
      have HW3 := Lib.hid hw3
      clear hbt hbr hw3 ht3
      have e1 : w2.drew.cell? ⟨H, 1, none⟩ = _ := d1
      have e2 : w2.drew.cell? ⟨H, 2, none⟩ = _ := d2
      have e3 : w2.drew.cell? ⟨H, 3, none⟩ = _ := d3
      have hne : H ≠ pb := by have := HH.out; omega
      go_big_region
      obtain ⟨w3, hw3⟩ : ∃ w3, ((w2.setCell ⟨pb, 1 + k, none⟩ (.int .i64 tm)).setCell ⟨pb, 5 + k, none⟩ (.int .i64 rs)).drew = w3 := ⟨_, rfl⟩
      rw [hw3] at HW3 HT3 ⊢
      clear hw3 f1 f2 f3 q2 q3 CPt CPr e1 e2 e3 d0 d1 d2 d3
      have HB3 := Lib.hid (HT3.out.blk HB2.out hne)
      have HR3 := Lib.hid (show Rc w cb g c L w3 from HJ2.out.r.turned HT3.out HJ2.out.n1.symm HJ2.out.n2.symm HJ2.out.lp)
      have d1 := HB3.out.cell 1
      have d2 := HB3.out.cell 2
      have d3 := HB3.out.cell 3
      simp only [List.getElem?_toArray, List.getElem?_cons_zero, List.getElem?_cons_succ] at d1 d2 d3
      have hyes : putS L (k : Int) tm rs = (true, L.set k (tm, rs)) := by rw [putS_is HK.out, HX.out, if_pos hm]
      have HP := Lib.hid (cput_any HR3.out.ch (k : Int) tm rs)
      have HNo := Lib.hid (fun (wz : World) hc ht => HR3.out.put (wz := wz) (k := (k : Int)) (t := tm) (r := rs) hc ht)
      rw [hyes] at HP HNo
      clear hyes
      go_wp2_with fail
      refine HP.out.mono ?_
      rintro e w4 ⟨rfl, hC4, ht4⟩
      have HJ4 := Lib.hid (show Jc w cb g c pb (L.set k (tm, rs)) w4 from ⟨HNo.out _ hC4 ht4, ht4.blk HW3.out HJ2.out.n2, HJ2.out.lp, HJ2.out.n1, HJ2.out.n2⟩)
      have HT4 := Lib.hid ht4
      clear hC4 ht4
      go_wp2_with fail
      go_ret
      exact ⟨rfl, _, HJ4.out, List.length_set, Turn.trans (Turn.of_below (HHs.out ▸ HL2.out)) (Turn.trans (HT3.out.mono (fun _ _ e => Or.inr e)) (HT4.out.mono (fun _ _ e => Or.inl e)))⟩
    · have gm : decide (last < tm) = false := decide_eq_false hm
      have HP := Lib.hid (cput_any HJ2.out.r.ch (k : Int) tm rs)
      have hno : (putS L (k : Int) tm rs).1 = false := by rw [putS_is HK.out, HX.out, if_neg hm]
      have HNo := Lib.hid (fun (wz : World) hc ht => HJ2.out.no (wz := wz) hno hc ht)
      rw [hno] at HP
      clear hno
      go_wp2_with fail
      refine HP.out.mono ?_
      rintro e w3 ⟨rfl, hC3, ht3⟩
      have HJ3 := Lib.hid (HNo.out _ hC3 ht3)
      have HT3 := Lib.hid ht3
      clear hC3 ht3
      go_wp2_with fail
      go_ret
      exact ⟨rfl, L, HJ3.out, rfl, Turn.trans (Turn.of_below (HHs.out ▸ HL2.out)) (HT3.out.mono (fun _ _ e => Or.inl e))⟩
  · by_cases hm : last < tm
    · have gm : decide (last < tm) = true := decide_eq_true hm
      go_wp2_with fail
      have f1 := fun j => (show w2.drew.frozen? ⟨pb, j, none⟩ = false from (HJ2.out.p.drewN 1).frozen j)
      have CPt : w2.drew.cell? ⟨pb, 1 + k, none⟩ = some (.int .i64 last) := (Blk.cell HJ2.out.p (1 + k)).trans ((plC_at L HK4.out).1.trans (by rw [HX.out]))
      have CPr : w2.drew.cell? ⟨pb, 5 + k, none⟩ = some (.int .i64 res) := (Blk.cell HJ2.out.p (5 + k)).trans ((plC_at L HK4.out).2.trans (by rw [HX.out]))
      have hbt := Blk.set_ HJ2.out.p (1 + k) (.int .i64 tm)
      have hbr := Blk.set_ HJ2.out.p (5 + k) (.int .i64 rs)
      have f2 : (w2.setCell ⟨pb, 1 + k, none⟩ (.int .i64 tm)).drew.frozen? ⟨pb, 5 + k, none⟩ = false := hbt.frozen _
      have f3 : (w2.setCell ⟨pb, 5 + k, none⟩ (.int .i64 rs)).drew.frozen? ⟨pb, 1 + k, none⟩ = false := hbr.frozen _
      have q2 : (w2.setCell ⟨pb, 1 + k, none⟩ (.int .i64 tm)).drew.cell? ⟨pb, 5 + k, none⟩ = some (.int .i64 res) := (hbt.cell (5 + k)).trans (by rw [Array.getElem?_setIfInBounds_ne (by omega)]; exact (plC_at L HK4.out).2.trans (by rw [HX.out]))
      have q3 : (w2.setCell ⟨pb, 5 + k, none⟩ (.int .i64 rs)).drew.cell? ⟨pb, 1 + k, none⟩ = some (.int .i64 last) := (hbr.cell (1 + k)).trans (by rw [Array.getElem?_setIfInBounds_ne (by omega)]; exact (plC_at L HK4.out).1.trans (by rw [HX.out]))
      have hw3 : Pl ((w2.setCell ⟨pb, 1 + k, none⟩ (.int .i64 tm)).setCell ⟨pb, 5 + k, none⟩ (.int .i64 rs)).drew pb (L.set k (tm, rs)) := by
        unfold Pl
        rw [← plC_put HK.out HJ2.out.r.ch.l4 tm rs]
        exact (hbt.set_ (5 + k) (.int .i64 rs)).drewN 1
      have ht3 : Turn (fun j => j = pb) w2 ((w2.setCell ⟨pb, 1 + k, none⟩ (.int .i64 tm)).setCell ⟨pb, 5 + k, none⟩ (.int .i64 rs)).drew := (((Turn.refl (fun j => j = pb) w2).set_ ⟨pb, 1 + k, none⟩ _ rfl).set_ ⟨pb, 5 + k, none⟩ _ rfl).drewN 1
      have HT3 := Lib.hid ht3
      have HW3 := Lib.hid hw3
      clear hbt hbr hw3 ht3
      have e1 : w2.drew.cell? ⟨H, 1, none⟩ = _ := d1
      have e2 : w2.drew.cell? ⟨H, 2, none⟩ = _ := d2
      have e3 : w2.drew.cell? ⟨H, 3, none⟩ = _ := d3
      have hne : H ≠ pb := by have := HH.out; omega
      go_big_region
      obtain ⟨w3, hw3⟩ : ∃ w3, ((w2.setCell ⟨pb, 1 + k, none⟩ (.int .i64 tm)).setCell ⟨pb, 5 + k, none⟩ (.int .i64 rs)).drew = w3 := ⟨_, rfl⟩
      rw [hw3] at HW3 HT3 ⊢
      clear hw3 f1 f2 f3 q2 q3 CPt CPr e1 e2 e3 d0 d1 d2 d3
      have HB3 := Lib.hid (HT3.out.blk HB2.out hne)
      have HR3 := Lib.hid (show Rc w cb g c L w3 from HJ2.out.r.turned HT3.out HJ2.out.n1.symm HJ2.out.n2.symm HJ2.out.lp)
      have d1 := HB3.out.cell 1
      have d2 := HB3.out.cell 2
      have d3 := HB3.out.cell 3
      simp only [List.getElem?_toArray, List.getElem?_cons_zero, List.getElem?_cons_succ] at d1 d2 d3
      have hyes : putS L (k : Int) tm rs = (true, L.set k (tm, rs)) := by rw [putS_is HK.out, HX.out, if_pos hm]
      have HP := Lib.hid (cput_any HR3.out.ch (k : Int) tm rs)
      have HNo := Lib.hid (fun (wz : World) hc ht => HR3.out.put (wz := wz) (k := (k : Int)) (t := tm) (r := rs) hc ht)
      rw [hyes] at HP HNo
      clear hyes
      go_wp2_with fail
      refine HP.out.mono ?_
      rintro e w4 ⟨rfl, hC4, ht4⟩
      have HJ4 := Lib.hid (show Jc w cb g c pb (L.set k (tm, rs)) w4 from ⟨HNo.out _ hC4 ht4, ht4.blk HW3.out HJ2.out.n2, HJ2.out.lp, HJ2.out.n1, HJ2.out.n2⟩)
      have HT4 := Lib.hid ht4
      clear hC4 ht4
      go_wp2_with fail
      go_ret
      exact ⟨rfl, _, HJ4.out, List.length_set, Turn.trans (Turn.of_below (HHs.out ▸ HL2.out)) (Turn.trans (HT3.out.mono (fun _ _ e => Or.inr e)) (HT4.out.mono (fun _ _ e => Or.inl e)))⟩
    · have gm : decide (last < tm) = false := decide_eq_false hm
      have HP := Lib.hid (cput_any HJ2.out.r.ch (k : Int) tm rs)
      have hno : (putS L (k : Int) tm rs).1 = false := by rw [putS_is HK.out, HX.out, if_neg hm]
      have HNo := Lib.hid (fun (wz : World) hc ht => HJ2.out.no (wz := wz) hno hc ht)
      rw [hno] at HP
      clear hno
      go_wp2_with fail
      refine HP.out.mono ?_
      rintro e w3 ⟨rfl, hC3, ht3⟩
      have HJ3 := Lib.hid (HNo.out _ hC3 ht3)
      have HT3 := Lib.hid ht3
      clear hC3 ht3
      go_wp2_with fail
      go_ret
      exact ⟨rfl, L, HJ3.out, rfl, Turn.trans (Turn.of_below (HHs.out ▸ HL2.out)) (HT3.out.mono (fun _ _ e => Or.inl e))⟩
  · have HP := Lib.hid (clast_any HJ2.out.r.ch (k : Int))
    rw [HX.out] at HP
    have gl : (last == last) = true := by simp
    go_wp2_with fail
    refine HP.out.mono ?_
    rintro e w3 ⟨rfl, rfl⟩
    go_wp2_with fail
    go_ret
    exact ⟨rfl, L, HJ2.out, rfl, Turn.of_below (HHs.out ▸ HL2.out)⟩
  · have HP := Lib.hid (cget_any HJ2.out.r.ch (k : Int) tm)
    by_cases hg : 0 < tm ∧ tm = last
    · have he : getS L (k : Int) tm = (res, true) := by unfold getS; rw [HX.out, if_pos hg]
      rw [he] at HP
      obtain ⟨hg1, hg2⟩ := hg
      subst hg2
      have g1 : (tm == tm) = true := by simp
      have g2 : decide (0 < tm) = true := decide_eq_true hg1
      have g3 : (res == res) = true := by simp
      clear he
      go_wp2_with fail
      refine HP.out.mono ?_
      rintro e w3 ⟨rfl, rfl⟩
      go_wp2_with fail
      go_ret
      exact ⟨rfl, L, HJ2.out, rfl, Turn.of_below (HHs.out ▸ HL2.out)⟩
    · have he : getS L (k : Int) tm = (0, false) := by unfold getS; rw [HX.out, if_neg hg]
      rw [he] at HP
      by_cases h1 : tm = last
      · subst h1
        have g1 : (tm == tm) = true := by simp
        have g2 : decide (0 < tm) = false := decide_eq_false (fun h => hg ⟨h, rfl⟩)
        clear he hg
        go_wp2_with fail
        refine HP.out.mono ?_
        rintro e w3 ⟨rfl, rfl⟩
        go_wp2_with fail
        go_ret
        exact ⟨rfl, L, HJ2.out, rfl, Turn.of_below (HHs.out ▸ HL2.out)⟩
      · have g1 : (tm == last) = false := by simp [h1]
        clear he hg
        go_wp2_with fail
        refine HP.out.mono ?_
        rintro e w3 ⟨rfl, rfl⟩
        go_wp2_with fail
        go_ret
        exact ⟨rfl, L, HJ2.out, rfl, Turn.of_below (HHs.out ▸ HL2.out)⟩
set_option maxRecDepth 100000 in
set_option maxHeartbeats 8000000 in
theorem do_out {w wr : World} {cb g c pb : Nat} {L : List (Int × Int)} (h : Jc w cb g c pb L wr) {dd tm rs : Int} {k : Int} (hk : k < 0 ∨ 0 ≤ k ∧ (L.length : Int) ≤ k) (hd : fit dd) :
    Calls Try.prog 12 #[.pointer (some ⟨cb, 0, none⟩), .pointer (some ⟨pb, 0, none⟩), .agg #[.int .i64 dd, .int .i64 k, .int .i64 tm, .int .i64 rs]] wr (Done w cb g c pb L wr) := by
  have h4 := h.r.ch.l4
  have HW := Lib.hid (fun w => within_any dd 4 (by omega) (by omega) (wf_i64 hd).1 (wf_i64 hd).2 w)
  have HJ := Lib.hid h
  have HPn := Lib.hid (fun t r => putS_out (L := L) (k := k) (by omega) t r)
  have HX := Lib.hid (atL_out (L := L) (k := k) (by omega))
  obtain ⟨n, hn⟩ : ∃ n, L.length = n := ⟨_, rfl⟩
  have HN := Lib.hid hn
  rw [hn] at hk
  have hr : dd % 4 = 0 ∨ dd % 4 = 1 ∨ dd % 4 = 2 ∨ dd % 4 = 3 := by omega
  obtain ⟨r, hrr⟩ : ∃ r, dd % 4 = r := ⟨_, rfl⟩
  rw [hrr] at HW hr
  clear h hd h4 hn hrr
  go_enter Try.func12, Try.ntmps12
  go_wp2_with fail
  have hbx := Blk.new wr 30 #[.int .i64 dd, .int .i64 k, .int .i64 tm, .int .i64 rs]
  have hbw : Below wr.heap.size wr (wr.alloc (.cells #[.int .i64 dd, .int .i64 k, .int .i64 tm, .int .i64 rs] 30)) := (Below.refl _ _).alloc (Nat.le_refl _) _
  have HJ1 := Lib.hid (HJ.out.below hbw)
  have HB1 := Lib.hid hbx
  have HL1 := Lib.hid hbw
  have hlt := HJ.out.p.lt
  have hlg := HJ.out.r.ch.lt
  obtain ⟨H, hH⟩ : ∃ H, wr.heap.size = H := ⟨_, rfl⟩
  obtain ⟨w1, hw1⟩ : ∃ w1, wr.alloc (.cells #[.int .i64 dd, .int .i64 k, .int .i64 tm, .int .i64 rs] 30) = w1 := ⟨_, rfl⟩
  rw [hw1] at HJ1 HB1 HL1 ⊢
  rw [hH] at HB1 HL1 hlt hlg ⊢
  have HH := Lib.hid (show pb < H ∧ cb < H ∧ g < H from ⟨hlt, hlg⟩)
  have HHs := Lib.hid hH
  clear hw1 hH hlt hlg hbx hbw
  have CH0 := fun n => (show (w1.drewN n).cell? ⟨H, 0, none⟩ = some (.int .i64 dd) from (HB1.out.drewN n).cell 0)
  have CH1 := fun n => (show (w1.drewN n).cell? ⟨H, 1, none⟩ = some (.int .i64 k) from (HB1.out.drewN n).cell 1)
  have CP0 := fun m => (show (w1.drewN m).cell? ⟨pb, 0, none⟩ = some (.int .i64 (n : Int)) from by have := Blk.cell (HJ1.out.p.drewN m) 0; rw [this, ← HN.out]; rfl)
  rcases hk with hk0 | ⟨hk0, hk1⟩
  · have g0 : decide (0 ≤ k) = false := decide_eq_false (by omega)
    go_quiet (fail)
    go_wp2_with fail
    refine (HW.out _).mono ?_
    rintro e wv ⟨rfl, rfl⟩
    have HJ2 := Lib.hid (HJ1.out.drewN nq)
    have HB2 := Lib.hid (HB1.out.drewN nq)
    have HL2 := Lib.hid (show Below H wr (w1.drewN nq) from HL1.out.trans ⟨rfl, rfl, rfl, Nat.le_refl _, fun _ _ => rfl⟩)
    obtain ⟨w2, hw2⟩ : ∃ w2, w1.drewN nq = w2 := ⟨_, rfl⟩
    rw [hw2] at HJ2 HB2 HL2 ⊢
    clear hw2 CH0 CH1 CP0 HJ1 HB1 HL1 HW
    have d0 := HB2.out.cell 0
    have d1 := HB2.out.cell 1
    have d2 := HB2.out.cell 2
    have d3 := HB2.out.cell 3
    simp only [List.getElem?_toArray, List.getElem?_cons_zero, List.getElem?_cons_succ] at d0 d1 d2 d3
    rcases hr with rfl | rfl | rfl | rfl
    · have HP := Lib.hid (cput_any HJ2.out.r.ch k tm rs)
      have hno : (putS L k tm rs).1 = false := by rw [HPn.out]
      have HNo := Lib.hid (fun (wz : World) hc ht => HJ2.out.no (wz := wz) hno hc ht)
      rw [hno] at HP
      clear hno
      go_wp2_with fail
      refine HP.out.mono ?_
      rintro e w3 ⟨rfl, hC3, ht3⟩
      have HJ3 := Lib.hid (HNo.out _ hC3 ht3)
      have HT3 := Lib.hid ht3
      clear hC3 ht3
      go_wp2_with fail
      go_ret
      exact ⟨rfl, L, HJ3.out, rfl, Turn.trans (Turn.of_below (HHs.out ▸ HL2.out)) (HT3.out.mono (fun _ _ e => Or.inl e))⟩
    · have HP := Lib.hid (cput_any HJ2.out.r.ch k tm rs)
      have hno : (putS L k tm rs).1 = false := by rw [HPn.out]
      have HNo := Lib.hid (fun (wz : World) hc ht => HJ2.out.no (wz := wz) hno hc ht)
      rw [hno] at HP
      clear hno
      go_wp2_with fail
      refine HP.out.mono ?_
      rintro e w3 ⟨rfl, hC3, ht3⟩
      have HJ3 := Lib.hid (HNo.out _ hC3 ht3)
      have HT3 := Lib.hid ht3
      clear hC3 ht3
      go_wp2_with fail
      go_ret
      exact ⟨rfl, L, HJ3.out, rfl, Turn.trans (Turn.of_below (HHs.out ▸ HL2.out)) (HT3.out.mono (fun _ _ e => Or.inl e))⟩
    · have HP := Lib.hid (clast_any HJ2.out.r.ch k)
      rw [HX.out] at HP
      have gl : ((0 : Int) == 0) = true := by simp
      go_wp2_with fail
      refine HP.out.mono ?_
      rintro e w3 ⟨rfl, rfl⟩
      go_wp2_with fail
      go_ret
      exact ⟨rfl, L, HJ2.out, rfl, Turn.of_below (HHs.out ▸ HL2.out)⟩
    · have HP := Lib.hid (cget_any HJ2.out.r.ch k tm)
      have he : getS L k tm = (0, false) := by
        unfold getS
        rw [HX.out, if_neg (fun h => by have h2 : tm = 0 := h.2; omega)]
      rw [he] at HP
      clear he
      go_wp2_with fail
      refine HP.out.mono ?_
      rintro e w3 ⟨rfl, rfl⟩
      go_wp2_with fail
      go_ret
      exact ⟨rfl, L, HJ2.out, rfl, Turn.of_below (HHs.out ▸ HL2.out)⟩
  · have g0 : decide (0 ≤ k) = true := decide_eq_true hk0
    have g1 : decide (k < (n : Int)) = false := decide_eq_false (by omega)
    go_quiet (fail)
    go_wp2_with fail
    refine (HW.out _).mono ?_
    rintro e wv ⟨rfl, rfl⟩
    have HJ2 := Lib.hid (HJ1.out.drewN nq)
    have HB2 := Lib.hid (HB1.out.drewN nq)
    have HL2 := Lib.hid (show Below H wr (w1.drewN nq) from HL1.out.trans ⟨rfl, rfl, rfl, Nat.le_refl _, fun _ _ => rfl⟩)
    obtain ⟨w2, hw2⟩ : ∃ w2, w1.drewN nq = w2 := ⟨_, rfl⟩
    rw [hw2] at HJ2 HB2 HL2 ⊢
    clear hw2 CH0 CH1 CP0 HJ1 HB1 HL1 HW
    have d0 := HB2.out.cell 0
    have d1 := HB2.out.cell 1
    have d2 := HB2.out.cell 2
    have d3 := HB2.out.cell 3
    simp only [List.getElem?_toArray, List.getElem?_cons_zero, List.getElem?_cons_succ] at d0 d1 d2 d3
    rcases hr with rfl | rfl | rfl | rfl
    · have HP := Lib.hid (cput_any HJ2.out.r.ch k tm rs)
      have hno : (putS L k tm rs).1 = false := by rw [HPn.out]
      have HNo := Lib.hid (fun (wz : World) hc ht => HJ2.out.no (wz := wz) hno hc ht)
      rw [hno] at HP
      clear hno
      go_wp2_with fail
      refine HP.out.mono ?_
      rintro e w3 ⟨rfl, hC3, ht3⟩
      have HJ3 := Lib.hid (HNo.out _ hC3 ht3)
      have HT3 := Lib.hid ht3
      clear hC3 ht3
      go_wp2_with fail
      go_ret
      exact ⟨rfl, L, HJ3.out, rfl, Turn.trans (Turn.of_below (HHs.out ▸ HL2.out)) (HT3.out.mono (fun _ _ e => Or.inl e))⟩
    · have HP := Lib.hid (cput_any HJ2.out.r.ch k tm rs)
      have hno : (putS L k tm rs).1 = false := by rw [HPn.out]
      have HNo := Lib.hid (fun (wz : World) hc ht => HJ2.out.no (wz := wz) hno hc ht)
      rw [hno] at HP
      clear hno
      go_wp2_with fail
      refine HP.out.mono ?_
      rintro e w3 ⟨rfl, hC3, ht3⟩
      have HJ3 := Lib.hid (HNo.out _ hC3 ht3)
      have HT3 := Lib.hid ht3
      clear hC3 ht3
      go_wp2_with fail
      go_ret
      exact ⟨rfl, L, HJ3.out, rfl, Turn.trans (Turn.of_below (HHs.out ▸ HL2.out)) (HT3.out.mono (fun _ _ e => Or.inl e))⟩
    · have HP := Lib.hid (clast_any HJ2.out.r.ch k)
      rw [HX.out] at HP
      have gl : ((0 : Int) == 0) = true := by simp
      go_wp2_with fail
      refine HP.out.mono ?_
      rintro e w3 ⟨rfl, rfl⟩
      go_wp2_with fail
      go_ret
      exact ⟨rfl, L, HJ2.out, rfl, Turn.of_below (HHs.out ▸ HL2.out)⟩
    · have HP := Lib.hid (cget_any HJ2.out.r.ch k tm)
      have he : getS L k tm = (0, false) := by
        unfold getS
        rw [HX.out, if_neg (fun h => by have h2 : tm = 0 := h.2; omega)]
      rw [he] at HP
      clear he
      go_wp2_with fail
      refine HP.out.mono ?_
      rintro e w3 ⟨rfl, rfl⟩
      go_wp2_with fail
      go_ret
      exact ⟨rfl, L, HJ2.out, rfl, Turn.of_below (HHs.out ▸ HL2.out)⟩
theorem do_any {w wr : World} {cb g c pb : Nat} {L : List (Int × Int)} (h : Jc w cb g c pb L wr) {dd k tm rs : Int} (hd : fit dd) :
    Calls Try.prog 12 #[.pointer (some ⟨cb, 0, none⟩), .pointer (some ⟨pb, 0, none⟩), .agg #[.int .i64 dd, .int .i64 k, .int .i64 tm, .int .i64 rs]] wr (Done w cb g c pb L wr) := by
  by_cases hk : 0 ≤ k ∧ k < L.length
  · obtain ⟨n, rfl⟩ := Int.eq_ofNat_of_zero_le hk.1
    exact do_in h (by omega) hd
  · exact do_out h (by omega) hd
end Go.Proofs.Ytibpleemclokiaa
