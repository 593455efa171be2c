/- The contracts of keep.Msg (are two messages the same?) and keep.Heavy (more than is played?). -/
import Derived.Test.YtbegjadohamkkaaGreatOS5
import Derived.Test.YtbegjadohamkkaaGreatOSameParts
import Derived.Test.YtbegjadohamkkaaGreatOS1
namespace Go.Proofs.YtbegjadohamkkaaGreat
open Go.RowKit

def smallMs (m : Mg) : Prop := m.bt.length ≤ 9223372036854775806 ∧ m.vs.length ≤ 9223372036854775806 ∧ m.cs.length ≤ 9223372036854775806 ∧ (∀ c ∈ m.cs, smallCert c) ∧ m.ps.length ≤ 9223372036854775806 ∧ ∀ q ∈ m.ps, smallPart q
theorem same_parts_is {A A' : Option Addr} {c c' la lb : Nat} {zs ys : List Pt} {B : Nat} {r : Bool} (ha : zs.length = la) (hb : ys.length = lb) (hl : la ≤ 9223372036854775806) (hr : sameL zs ys = r) (hs : ∀ x ∈ zs, smallPart x)
    (w : World) (hB : B ≤ w.heap.size) (h1 : HasParts w B A zs) (h2 : HasParts w B A' ys) :
    Calls Tryz.prog 61 #[.slice A la c, .slice A' lb c'] w fun e w' => e = .returned (.bool r) ∧ Below w.heap.size w w' := by
  subst ha; subst hb; subst hr
  exact same_parts A A' c c' zs ys B w hl h1 h2 hB hs
theorem mg_lists {x y : Mg} (h1 : x.kd = y.kd) (h2 : x.fr = y.fr) (h3 : x.vw = y.vw) (h4 : x.ins = y.ins) (h5 : x.sq = y.sq) (h6 : x.rs = y.rs) : decide (x = y) = (sameL x.bt y.bt && (sameL x.vs y.vs && (sameL x.cs y.cs && sameL x.ps y.ps))) := by
  rcases x with ⟨a, b, c, d, e, f, g, h, k, l⟩
  rcases y with ⟨a', b', c', d', e', f', g', h', k', l'⟩
  simp only at h1 h2 h3 h4 h5 h6
  subst h1; subst h2; subst h3; subst h4; subst h5; subst h6
  simp [sameL]
set_option maxHeartbeats 4000000 in
theorem keep_msg (x y : Ms) (B : Nat) (w : World) (hx : x.In w B) (hy : y.In w B) (hB : B ≤ w.heap.size) (hs : smallMs x.m) :
    Calls Tryz.prog 18 #[.agg #[.int .i64 x.m.kd, .int .i64 x.m.fr, .int .i64 x.m.vw, .int .i64 x.m.ins, .int .i64 x.m.sq, .int .i64 x.m.rs, .slice x.A1 x.m.bt.length x.c1, .slice x.A2 x.m.vs.length x.c2, .slice x.A3 x.m.cs.length x.c3, .slice x.A4 x.m.ps.length x.c4], .agg #[.int .i64 y.m.kd, .int .i64 y.m.fr, .int .i64 y.m.vw, .int .i64 y.m.ins, .int .i64 y.m.sq, .int .i64 y.m.rs, .slice y.A1 y.m.bt.length y.c1, .slice y.A2 y.m.vs.length y.c2, .slice y.A3 y.m.cs.length y.c3, .slice y.A4 y.m.ps.length y.c4]] w
      fun e w' => e = .returned (.bool (decide (x.m = y.m))) ∧ Below w.heap.size w w' := by
  have HB0 := Lib.hid (show Below w.heap.size w ((w.alloc (.cells #[.int .i64 x.m.kd, .int .i64 x.m.fr, .int .i64 x.m.vw, .int .i64 x.m.ins, .int .i64 x.m.sq, .int .i64 x.m.rs, .slice x.A1 x.m.bt.length x.c1, .slice x.A2 x.m.vs.length x.c2, .slice x.A3 x.m.cs.length x.c3, .slice x.A4 x.m.ps.length x.c4] 38)).alloc (.cells #[.int .i64 y.m.kd, .int .i64 y.m.fr, .int .i64 y.m.vw, .int .i64 y.m.ins, .int .i64 y.m.sq, .int .i64 y.m.rs, .slice y.A1 y.m.bt.length y.c1, .slice y.A2 y.m.vs.length y.c2, .slice y.A3 y.m.cs.length y.c3, .slice y.A4 y.m.ps.length y.c4] 38)) from ((Below.refl _ w).alloc (Nat.le_refl _) _).alloc (by simp) _)
  have HX := Lib.hid (hx.reads (Reads.below (HB0.out.mono (Nat.le_refl _)) hB))
  have HY := Lib.hid (hy.reads (Reads.below (HB0.out.mono (Nat.le_refl _)) hB))
  have HXb := Lib.hid (show Blk ((w.alloc (.cells #[.int .i64 x.m.kd, .int .i64 x.m.fr, .int .i64 x.m.vw, .int .i64 x.m.ins, .int .i64 x.m.sq, .int .i64 x.m.rs, .slice x.A1 x.m.bt.length x.c1, .slice x.A2 x.m.vs.length x.c2, .slice x.A3 x.m.cs.length x.c3, .slice x.A4 x.m.ps.length x.c4] 38)).alloc (.cells #[.int .i64 y.m.kd, .int .i64 y.m.fr, .int .i64 y.m.vw, .int .i64 y.m.ins, .int .i64 y.m.sq, .int .i64 y.m.rs, .slice y.A1 y.m.bt.length y.c1, .slice y.A2 y.m.vs.length y.c2, .slice y.A3 y.m.cs.length y.c3, .slice y.A4 y.m.ps.length y.c4] 38)) w.heap.size 38 #[.int .i64 x.m.kd, .int .i64 x.m.fr, .int .i64 x.m.vw, .int .i64 x.m.ins, .int .i64 x.m.sq, .int .i64 x.m.rs, .slice x.A1 x.m.bt.length x.c1, .slice x.A2 x.m.vs.length x.c2, .slice x.A3 x.m.cs.length x.c3, .slice x.A4 x.m.ps.length x.c4] from (Blk.new _ _ _).alloc _)
  have HYb := Lib.hid (show Blk ((w.alloc (.cells #[.int .i64 x.m.kd, .int .i64 x.m.fr, .int .i64 x.m.vw, .int .i64 x.m.ins, .int .i64 x.m.sq, .int .i64 x.m.rs, .slice x.A1 x.m.bt.length x.c1, .slice x.A2 x.m.vs.length x.c2, .slice x.A3 x.m.cs.length x.c3, .slice x.A4 x.m.ps.length x.c4] 38)).alloc (.cells #[.int .i64 y.m.kd, .int .i64 y.m.fr, .int .i64 y.m.vw, .int .i64 y.m.ins, .int .i64 y.m.sq, .int .i64 y.m.rs, .slice y.A1 y.m.bt.length y.c1, .slice y.A2 y.m.vs.length y.c2, .slice y.A3 y.m.cs.length y.c3, .slice y.A4 y.m.ps.length y.c4] 38)) (w.heap.size + 1) 38 #[.int .i64 y.m.kd, .int .i64 y.m.fr, .int .i64 y.m.vw, .int .i64 y.m.ins, .int .i64 y.m.sq, .int .i64 y.m.rs, .slice y.A1 y.m.bt.length y.c1, .slice y.A2 y.m.vs.length y.c2, .slice y.A3 y.m.cs.length y.c3, .slice y.A4 y.m.ps.length y.c4] from Blk.new1 _ _ _ _)
  obtain ⟨hs1, hs2, hs3, hs4, hs5, hs6⟩ := hs
  have HS4 := Lib.hid hs4
  have HS6 := Lib.hid hs6
  clear hx hy hs4 hs6
  by_cases h0 : x.m.kd = y.m.kd
  case neg =>
    have t0 : (x.m.kd == y.m.kd) = false := by simpa using h0
    have HE := Lib.hid (show (decide (x.m = y.m)) = false by rw [decide_eq_false_iff_not]; exact fun h => h0 (by rw [h]))
    clear h0
    go_enter Tryz.func18, Tryz.ntmps18
    go_wp2_with fail
    go_ret
    exact ⟨by rw [HE.out]; rfl, HB0.out⟩
  by_cases h1 : x.m.fr = y.m.fr
  case neg =>
    have t0 : (x.m.kd == y.m.kd) = true := by simpa using h0
    have t1 : (x.m.fr == y.m.fr) = false := by simpa using h1
    have HE := Lib.hid (show (decide (x.m = y.m)) = false by rw [decide_eq_false_iff_not]; exact fun h => h1 (by rw [h]))
    clear h0 h1
    go_enter Tryz.func18, Tryz.ntmps18
    go_wp2_with fail
    go_ret
    exact ⟨by rw [HE.out]; rfl, HB0.out⟩
  by_cases h2 : x.m.vw = y.m.vw
  case neg =>
    have t0 : (x.m.kd == y.m.kd) = true := by simpa using h0
    have t1 : (x.m.fr == y.m.fr) = true := by simpa using h1
    have t2 : (x.m.vw == y.m.vw) = false := by simpa using h2
    have HE := Lib.hid (show (decide (x.m = y.m)) = false by rw [decide_eq_false_iff_not]; exact fun h => h2 (by rw [h]))
    clear h0 h1 h2
    go_enter Tryz.func18, Tryz.ntmps18
    go_wp2_with fail
    go_ret
    exact ⟨by rw [HE.out]; rfl, HB0.out⟩
  by_cases h3 : x.m.ins = y.m.ins
  case neg =>
    have t0 : (x.m.kd == y.m.kd) = true := by simpa using h0
    have t1 : (x.m.fr == y.m.fr) = true := by simpa using h1
    have t2 : (x.m.vw == y.m.vw) = true := by simpa using h2
    have t3 : (x.m.ins == y.m.ins) = false := by simpa using h3
    have HE := Lib.hid (show (decide (x.m = y.m)) = false by rw [decide_eq_false_iff_not]; exact fun h => h3 (by rw [h]))
    clear h0 h1 h2 h3
    go_enter Tryz.func18, Tryz.ntmps18
    go_wp2_with fail
    go_ret
    exact ⟨by rw [HE.out]; rfl, HB0.out⟩
  by_cases h4 : x.m.sq = y.m.sq
  case neg =>
    have t0 : (x.m.kd == y.m.kd) = true := by simpa using h0
    have t1 : (x.m.fr == y.m.fr) = true := by simpa using h1
    have t2 : (x.m.vw == y.m.vw) = true := by simpa using h2
    have t3 : (x.m.ins == y.m.ins) = true := by simpa using h3
    have t4 : (x.m.sq == y.m.sq) = false := by simpa using h4
    have HE := Lib.hid (show (decide (x.m = y.m)) = false by rw [decide_eq_false_iff_not]; exact fun h => h4 (by rw [h]))
    clear h0 h1 h2 h3 h4
    go_enter Tryz.func18, Tryz.ntmps18
    go_wp2_with fail
    go_ret
    exact ⟨by rw [HE.out]; rfl, HB0.out⟩
  by_cases h5 : x.m.rs = y.m.rs
  case neg =>
    have t0 : (x.m.kd == y.m.kd) = true := by simpa using h0
    have t1 : (x.m.fr == y.m.fr) = true := by simpa using h1
    have t2 : (x.m.vw == y.m.vw) = true := by simpa using h2
    have t3 : (x.m.ins == y.m.ins) = true := by simpa using h3
    have t4 : (x.m.sq == y.m.sq) = true := by simpa using h4
    have t5 : (x.m.rs == y.m.rs) = false := by simpa using h5
    have HE := Lib.hid (show (decide (x.m = y.m)) = false by rw [decide_eq_false_iff_not]; exact fun h => h5 (by rw [h]))
    clear h0 h1 h2 h3 h4 h5
    go_enter Tryz.func18, Tryz.ntmps18
    go_wp2_with fail
    go_ret
    exact ⟨by rw [HE.out]; rfl, HB0.out⟩
  have t0 : (x.m.kd == y.m.kd) = true := by simpa using h0
  have t1 : (x.m.fr == y.m.fr) = true := by simpa using h1
  have t2 : (x.m.vw == y.m.vw) = true := by simpa using h2
  have t3 : (x.m.ins == y.m.ins) = true := by simpa using h3
  have t4 : (x.m.sq == y.m.sq) = true := by simpa using h4
  have t5 : (x.m.rs == y.m.rs) = true := by simpa using h5
  have HE := Lib.hid (mg_lists h0 h1 h2 h3 h4 h5)
  clear h0 h1 h2 h3 h4 h5
  obtain ⟨r1, hr1⟩ : ∃ r, sameL x.m.bt y.m.bt = r := ⟨_, rfl⟩
  have HR1 := Lib.hid hr1
  obtain ⟨r2, hr2⟩ : ∃ r, sameL x.m.vs y.m.vs = r := ⟨_, rfl⟩
  have HR2 := Lib.hid hr2
  obtain ⟨r3, hr3⟩ : ∃ r, sameL x.m.cs y.m.cs = r := ⟨_, rfl⟩
  have HR3 := Lib.hid hr3
  obtain ⟨r4, hr4⟩ : ∃ r, sameL x.m.ps y.m.ps = r := ⟨_, rfl⟩
  have HR4 := Lib.hid hr4
  rw [hr1, hr2, hr3, hr4] at HE
  rw [HE.out]
  clear hr1 hr2 hr3 hr4
  go_enter Tryz.func18, Tryz.ntmps18
  go_wp2_with fail
  obtain ⟨w0, hw0⟩ : ∃ w0, ((w.alloc (.cells #[.int .i64 x.m.kd, .int .i64 x.m.fr, .int .i64 x.m.vw, .int .i64 x.m.ins, .int .i64 x.m.sq, .int .i64 x.m.rs, .slice x.A1 x.m.bt.length x.c1, .slice x.A2 x.m.vs.length x.c2, .slice x.A3 x.m.cs.length x.c3, .slice x.A4 x.m.ps.length x.c4] 38)).alloc (.cells #[.int .i64 y.m.kd, .int .i64 y.m.fr, .int .i64 y.m.vw, .int .i64 y.m.ins, .int .i64 y.m.sq, .int .i64 y.m.rs, .slice y.A1 y.m.bt.length y.c1, .slice y.A2 y.m.vs.length y.c2, .slice y.A3 y.m.cs.length y.c3, .slice y.A4 y.m.ps.length y.c4] 38)) = w0 := ⟨_, rfl⟩
  rw [hw0] at HB0 HX HY HXb HYb ⊢
  have hB0 : B ≤ w0.heap.size := Nat.le_trans hB HB0.out.size
  clear hw0
  refine (same_reqs_is rfl rfl hs1 HR1.out _ HX.out.bt HY.out.bt).mono ?_
  rintro e w1 ⟨rfl, n1, rfl⟩
  cases r1
  case false =>
    go_wp2_with fail
    go_ret
    exact ⟨rfl, below_drewN HB0.out _⟩
  have p7 : World.cell? (w0.drewN n1) ⟨w.heap.size, 7, none⟩ = some (.slice x.A2 x.m.vs.length x.c2) := (HXb.out.drewN n1).cell 7
  have q7 : World.cell? (w0.drewN n1) ⟨w.heap.size + 1, 7, none⟩ = some (.slice y.A2 y.m.vs.length y.c2) := (HYb.out.drewN n1).cell 7
  go_wp2_with fail
  refine (same_votes_is rfl rfl hs2 HR2.out _ (HX.out.vs.drewN n1) (HY.out.vs.drewN n1)).mono ?_
  rintro e w2 ⟨rfl, n2, rfl⟩
  clear p7 q7
  cases r2
  case false =>
    go_wp2_with fail
    go_ret
    exact ⟨rfl, below_drewN HB0.out _⟩
  have p8 : World.cell? (w0.drewN (n1 + n2)) ⟨w.heap.size, 8, none⟩ = some (.slice x.A3 x.m.cs.length x.c3) := (HXb.out.drewN (n1 + n2)).cell 8
  have q8 : World.cell? (w0.drewN (n1 + n2)) ⟨w.heap.size + 1, 8, none⟩ = some (.slice y.A3 y.m.cs.length y.c3) := (HYb.out.drewN (n1 + n2)).cell 8
  go_wp2_with fail
  clear p8 q8
  refine (same_certs_is rfl rfl hs3 HR3.out HS4.out (w0.drewN (n1 + n2)) hB0 (HX.out.cs.reads (fun _ _ h => h)) (HY.out.cs.reads (fun _ _ h => h))).mono ?_
  rintro e w3 ⟨rfl, hb3⟩
  have HB3 := Lib.hid ((below_drewN HB0.out (n1 + n2)).trans (hb3.mono HB0.out.size))
  cases r3
  case false =>
    clear hb3
    go_wp2_with fail
    go_ret
    exact ⟨rfl, HB3.out⟩
  have HX3 := Lib.hid (HX.out.ps.reads (Reads.below (w := w0.drewN (n1 + n2)) hb3 hB0))
  have HY3 := Lib.hid (HY.out.ps.reads (Reads.below (w := w0.drewN (n1 + n2)) hb3 hB0))
  have hB3 : B ≤ w3.heap.size := Nat.le_trans hB HB3.out.size
  have p9 : World.cell? (w3) ⟨w.heap.size, 9, none⟩ = some (.slice x.A4 x.m.ps.length x.c4) := ((Blk.drewN HXb.out (n1 + n2)).below hb3 HXb.out.lt).cell 9
  have q9 : World.cell? (w3) ⟨w.heap.size + 1, 9, none⟩ = some (.slice y.A4 y.m.ps.length y.c4) := ((Blk.drewN HYb.out (n1 + n2)).below hb3 HYb.out.lt).cell 9
  clear hb3
  go_wp2_with fail
  refine (same_parts_is rfl rfl hs5 HR4.out HS6.out _ hB3 HX3.out HY3.out).mono ?_
  rintro e w4 ⟨rfl, hb4⟩
  have HB4 := Lib.hid (HB3.out.trans (hb4.mono HB3.out.size))
  clear hb4
  go_wp2_with fail
  go_ret
  exact ⟨by simp, HB4.out⟩
end Go.Proofs.YtbegjadohamkkaaGreat
