/- The walk of ReqsCompares: it returns true for any three requests. (Asks for reqs' contracts as ReqLaws.) -/
import Derived.Test.YtdopgdaobpcbjaaReqLaws
import Derived.Deep.RegionHeld3
import Derived.Deep.DeepCutAuto
namespace Go.Proofs.Ytdopgdaobpcbjaa
open Go.RowKit

/-- Three boxes with requests, that stand. -/
structure Bx3 (g1 g2 g3 : Nat) (a b c : Rq) (w : World) : Prop where
  b1 : Blk w g1 34 #[.int .i64 a.cl, .int .i64 a.tm, .int .i64 a.kd, .int .i64 a.ky, .int .i64 a.vl, .int .i64 a.sg]
  b2 : Blk w g2 34 #[.int .i64 b.cl, .int .i64 b.tm, .int .i64 b.kd, .int .i64 b.ky, .int .i64 b.vl, .int .i64 b.sg]
  b3 : Blk w g3 34 #[.int .i64 c.cl, .int .i64 c.tm, .int .i64 c.kd, .int .i64 c.ky, .int .i64 c.vl, .int .i64 c.sg]
theorem Bx3.below {g1 g2 g3 : Nat} {a b c : Rq} {w w' : World} (h : Bx3 g1 g2 g3 a b c w) (hb : Below w.heap.size w w') : Bx3 g1 g2 g3 a b c w' := ⟨h.b1.below hb h.b1.lt, h.b2.below hb h.b2.lt, h.b3.below hb h.b3.lt⟩
theorem Bx3.drewN {g1 g2 g3 : Nat} {a b c : Rq} {w : World} (h : Bx3 g1 g2 g3 a b c w) (n : Nat) : Bx3 g1 g2 g3 a b c (w.drewN n) := ⟨h.b1.drewN n, h.b2.drewN n, h.b3.drewN n⟩
theorem Bx3.cells {g1 g2 g3 : Nat} {a b c : Rq} {w : World} (h : Bx3 g1 g2 g3 a b c w) : w.cell? ⟨g1, 0, none⟩ = some (.int .i64 a.cl) ∧ w.cell? ⟨g1, 1, none⟩ = some (.int .i64 a.tm) ∧ w.cell? ⟨g1, 2, none⟩ = some (.int .i64 a.kd) ∧ w.cell? ⟨g1, 3, none⟩ = some (.int .i64 a.ky) ∧ w.cell? ⟨g1, 4, none⟩ = some (.int .i64 a.vl) ∧ w.cell? ⟨g1, 5, none⟩ = some (.int .i64 a.sg) ∧ w.cell? ⟨g2, 0, none⟩ = some (.int .i64 b.cl) ∧ w.cell? ⟨g2, 1, none⟩ = some (.int .i64 b.tm) ∧ w.cell? ⟨g2, 2, none⟩ = some (.int .i64 b.kd) ∧ w.cell? ⟨g2, 3, none⟩ = some (.int .i64 b.ky) ∧ w.cell? ⟨g2, 4, none⟩ = some (.int .i64 b.vl) ∧ w.cell? ⟨g2, 5, none⟩ = some (.int .i64 b.sg) ∧ w.cell? ⟨g3, 0, none⟩ = some (.int .i64 c.cl) ∧ w.cell? ⟨g3, 1, none⟩ = some (.int .i64 c.tm) ∧ w.cell? ⟨g3, 2, none⟩ = some (.int .i64 c.kd) ∧ w.cell? ⟨g3, 3, none⟩ = some (.int .i64 c.ky) ∧ w.cell? ⟨g3, 4, none⟩ = some (.int .i64 c.vl) ∧ w.cell? ⟨g3, 5, none⟩ = some (.int .i64 c.sg) := ⟨h.b1.cell 0, h.b1.cell 1, h.b1.cell 2, h.b1.cell 3, h.b1.cell 4, h.b1.cell 5, h.b2.cell 0, h.b2.cell 1, h.b2.cell 2, h.b2.cell 3, h.b2.cell 4, h.b2.cell 5, h.b3.cell 0, h.b3.cell 1, h.b3.cell 2, h.b3.cell 3, h.b3.cell 4, h.b3.cell 5⟩
set_option maxHeartbeats 4000000 in
set_option maxRecDepth 100000 in
theorem reqsCompares_walk (M : ReqLaws) (a b c : Rq) (w : World) :
    Calls Try.prog 9 #[.agg #[.int .i64 a.cl, .int .i64 a.tm, .int .i64 a.kd, .int .i64 a.ky, .int .i64 a.vl, .int .i64 a.sg], .agg #[.int .i64 b.cl, .int .i64 b.tm, .int .i64 b.kd, .int .i64 b.ky, .int .i64 b.vl, .int .i64 b.sg], .agg #[.int .i64 c.cl, .int .i64 c.tm, .int .i64 c.kd, .int .i64 c.ky, .int .i64 c.vl, .int .i64 c.sg]] w fun e w' => e = .returned (.bool true) ∧ Below w.heap.size w w' := by
  have HM := Lib.hid M
  clear M
  obtain ⟨x, hx⟩ : ∃ x, cmpR a b = x := ⟨_, rfl⟩
  obtain ⟨y, hy⟩ : ∃ y, cmpR b c = y := ⟨_, rfl⟩
  obtain ⟨z, hz⟩ : ∃ z, cmpR a c = z := ⟨_, rfl⟩
  have HX := Lib.hid hx
  have HY := Lib.hid hy
  have HZ := Lib.hid hz
  have HR := Lib.hid (show x = -1 ∨ x = 0 ∨ x = 1 by rw [← hx]; exact cmpR_range a b)
  have C1 := Lib.hid (fun w => HM.out.compare a b w)
  have C2 := Lib.hid (fun w => HM.out.compare b c w)
  have C3 := Lib.hid (fun w => HM.out.compare a c w)
  have C4 := Lib.hid (fun w => HM.out.compare b a w)
  have C5 := Lib.hid (fun w => HM.out.compare a a w)
  rw [hx] at C1
  rw [hy] at C2
  rw [hz] at C3
  rw [cmpR_anti, hx] at C4
  rw [cmpR_self] at C5
  clear hx hy hz
  go_enter Try.func9, Try.ntmps9
  go_wp2_with fail
  have HB0 := Lib.hid (show Bx3 w.heap.size (w.heap.size + 1) (w.heap.size + 1 + 1) a b c (((w.alloc (.cells #[.int .i64 a.cl, .int .i64 a.tm, .int .i64 a.kd, .int .i64 a.ky, .int .i64 a.vl, .int .i64 a.sg] 34)).alloc (.cells #[.int .i64 b.cl, .int .i64 b.tm, .int .i64 b.kd, .int .i64 b.ky, .int .i64 b.vl, .int .i64 b.sg] 34)).alloc (.cells #[.int .i64 c.cl, .int .i64 c.tm, .int .i64 c.kd, .int .i64 c.ky, .int .i64 c.vl, .int .i64 c.sg] 34)) from
    ⟨((Blk.new w _ _).alloc _).alloc _, (Blk.new1 w _ _ _).alloc _, by have := Blk.new1 (w.alloc (.cells #[.int .i64 a.cl, .int .i64 a.tm, .int .i64 a.kd, .int .i64 a.ky, .int .i64 a.vl, .int .i64 a.sg] 34)) (.cells #[.int .i64 b.cl, .int .i64 b.tm, .int .i64 b.kd, .int .i64 b.ky, .int .i64 b.vl, .int .i64 b.sg] 34) 34 #[.int .i64 c.cl, .int .i64 c.tm, .int .i64 c.kd, .int .i64 c.ky, .int .i64 c.vl, .int .i64 c.sg]; simpa using this⟩)
  have HL0 := Lib.hid (show Below w.heap.size w (((w.alloc (.cells #[.int .i64 a.cl, .int .i64 a.tm, .int .i64 a.kd, .int .i64 a.ky, .int .i64 a.vl, .int .i64 a.sg] 34)).alloc (.cells #[.int .i64 b.cl, .int .i64 b.tm, .int .i64 b.kd, .int .i64 b.ky, .int .i64 b.vl, .int .i64 b.sg] 34)).alloc (.cells #[.int .i64 c.cl, .int .i64 c.tm, .int .i64 c.kd, .int .i64 c.ky, .int .i64 c.vl, .int .i64 c.sg] 34)) from
    (((Below.refl _ _).alloc (Nat.le_refl _) _).alloc (by simp) _).alloc (by simp; omega) _)
  obtain ⟨w1, hw1⟩ : ∃ w1, ((w.alloc (.cells #[.int .i64 a.cl, .int .i64 a.tm, .int .i64 a.kd, .int .i64 a.ky, .int .i64 a.vl, .int .i64 a.sg] 34)).alloc (.cells #[.int .i64 b.cl, .int .i64 b.tm, .int .i64 b.kd, .int .i64 b.ky, .int .i64 b.vl, .int .i64 b.sg] 34)).alloc (.cells #[.int .i64 c.cl, .int .i64 c.tm, .int .i64 c.kd, .int .i64 c.ky, .int .i64 c.vl, .int .i64 c.sg] 34) = w1 := ⟨_, rfl⟩
  rw [hw1] at HB0 HL0 ⊢
  clear hw1
  obtain ⟨g1, hg1⟩ : ∃ g1, w.heap.size = g1 := ⟨_, rfl⟩
  obtain ⟨g2, hg2⟩ : ∃ g2, w.heap.size + 1 = g2 := ⟨_, rfl⟩
  obtain ⟨g3, hg3⟩ : ∃ g3, w.heap.size + 1 + 1 = g3 := ⟨_, rfl⟩
  rw [hg3, hg2, hg1] at HB0 ⊢
  have HG := Lib.hid hg1
  clear hg1 hg2 hg3
  have hc0 := HB0.out.cells
  go_region_held3 (fun w' => w'.cell? ⟨g1, 0, none⟩ = some (.int .i64 a.cl) ∧ w'.cell? ⟨g1, 1, none⟩ = some (.int .i64 a.tm) ∧ w'.cell? ⟨g1, 2, none⟩ = some (.int .i64 a.kd) ∧ w'.cell? ⟨g1, 3, none⟩ = some (.int .i64 a.ky) ∧ w'.cell? ⟨g1, 4, none⟩ = some (.int .i64 a.vl) ∧ w'.cell? ⟨g1, 5, none⟩ = some (.int .i64 a.sg) ∧ w'.cell? ⟨g2, 0, none⟩ = some (.int .i64 b.cl) ∧ w'.cell? ⟨g2, 1, none⟩ = some (.int .i64 b.tm) ∧ w'.cell? ⟨g2, 2, none⟩ = some (.int .i64 b.kd) ∧ w'.cell? ⟨g2, 3, none⟩ = some (.int .i64 b.ky) ∧ w'.cell? ⟨g2, 4, none⟩ = some (.int .i64 b.vl) ∧ w'.cell? ⟨g2, 5, none⟩ = some (.int .i64 b.sg) ∧ w'.cell? ⟨g3, 0, none⟩ = some (.int .i64 c.cl) ∧ w'.cell? ⟨g3, 1, none⟩ = some (.int .i64 c.tm) ∧ w'.cell? ⟨g3, 2, none⟩ = some (.int .i64 c.kd) ∧ w'.cell? ⟨g3, 3, none⟩ = some (.int .i64 c.ky) ∧ w'.cell? ⟨g3, 4, none⟩ = some (.int .i64 c.vl) ∧ w'.cell? ⟨g3, 5, none⟩ = some (.int .i64 c.sg))
    (first | exact hc0 | exact hc1 | exact hc2 | exact hc3 | go_keep)
    (first | (go_at_call 34; (with_reducible refine (C1.out _).mono ?_); rintro e wa ⟨rfl, hba⟩; have hc1 := (show Bx3 g1 g2 g3 a b c wa from Bx3.below (show Bx3 g1 g2 g3 a b c w1.drew from HB0.out.drewN 1) hba).cells)
           | (go_at_call 34; (with_reducible refine (C2.out _).mono ?_); rintro e wb ⟨rfl, hbb⟩; have hc2 := (Bx3.below (show Bx3 g1 g2 g3 a b c wa from Bx3.below (show Bx3 g1 g2 g3 a b c w1.drew from HB0.out.drewN 1) hba) hbb).cells)
           | (go_at_call 34; (with_reducible refine (C3.out _).mono ?_); rintro e wc ⟨rfl, hbc⟩; have hc3 := (Bx3.below (Bx3.below (show Bx3 g1 g2 g3 a b c wa from Bx3.below (show Bx3 g1 g2 g3 a b c w1.drew from HB0.out.drewN 1) hba) hbb) hbc).cells))
  have HBc := Lib.hid (Bx3.below (Bx3.below (show Bx3 g1 g2 g3 a b c wa from Bx3.below (show Bx3 g1 g2 g3 a b c w1.drew from HB0.out.drewN 1) hba) hbb) hbc)
  have HLc := Lib.hid (show Below w.heap.size w wc from by
    have h0 : Below w.heap.size w w1.drew := HL0.out.trans ⟨rfl, rfl, rfl, Nat.le_refl _, fun _ _ => rfl⟩
    have h1 := h0.trans (hba.mono h0.size)
    have h2 := h1.trans (hbb.mono h1.size)
    exact h2.trans (hbc.mono h2.size))
  clear hc0 hc1 hc2 hc3 hba hbb hbc HB0 HL0
  obtain ⟨c0, c1, c2, c3, c4, c5, c6, c7, c8, c9, c10, c11, _⟩ := HBc.out.cells
  have HE := Lib.hid (show decide (a = b) = decide (x = 0) from by
    rw [← HX.out]
    by_cases e : a = b
    · subst e; rw [cmpR_self]; simp
    · have : cmpR a b ≠ 0 := fun h => e (cmpR_zero h)
      simp [e, this])
  have HL1 := Lib.hid (show x ≤ 0 → y ≤ 0 → z ≤ 0 by rw [← HX.out, ← HY.out, ← HZ.out]; exact cmpR_le)
  have HL2 := Lib.hid (show 0 ≤ x → 0 ≤ y → 0 ≤ z by rw [← HX.out, ← HY.out, ← HZ.out]; exact cmpR_ge)
  have HRy := Lib.hid (show y = -1 ∨ y = 0 ∨ y = 1 by rw [← HY.out]; exact cmpR_range b c)
  have HRz := Lib.hid (show z = -1 ∨ z = 0 ∨ z = 1 by rw [← HZ.out]; exact cmpR_range a c)
  have G := fun (w : World) => guard_req .eql (.tmp 28) (.tmp 29) #[.int .i64 a.cl, .int .i64 a.tm, .int .i64 a.kd, .int .i64 a.ky, .int .i64 a.vl, .int .i64 a.sg] #[.int .i64 b.cl, .int .i64 b.tm, .int .i64 b.kd, .int .i64 b.ky, .int .i64 b.vl, .int .i64 b.sg] w
  rcases HR.out with rfl | rfl | rfl
  all_goals
    have E := fun (w : World) => eql_req (x := a) (y := b) HE.out w
    simp only [Int.reduceEq, Int.reduceNeg, decide_true, decide_false] at E
    clear HX HY HZ HR C1 C2 C3 HE
    go_wp2_with fail
    refine (C4.out _).mono ?_
    rintro e wd ⟨rfl, hbd⟩
    have HBd := Lib.hid (HBc.out.below hbd)
    have HLd := Lib.hid (HLc.out.trans (hbd.mono HLc.out.size))
    clear hbd c0 c1 c2 c3 c4 c5 c6 c7 c8 c9 c10 c11
    obtain ⟨c0, c1, c2, c3, c4, c5, c6, c7, c8, c9, c10, c11, _⟩ := HBd.out.cells
    go_wp2_with fail
    refine (C5.out _).mono ?_
    rintro e we ⟨rfl, hbe⟩
    have HLe := Lib.hid (HLd.out.trans (hbe.mono HLd.out.size))
    clear hbe c0 c1 c2 c3 c4 c5 c6 c7 c8 c9 c10 c11 E G
    go_upto_region 4 with fail
    have hl1 := HL1.out
    have hl2 := HL2.out
    rcases HRy.out with rfl | rfl | rfl
    all_goals rcases HRz.out with rfl | rfl | rfl
    all_goals (first | omega | skip)
    all_goals
      clear hl1 hl2 HL1 HL2 HRy HRz
      go_wp2_with fail
      refine (wakes5_any HM.out _).mono ?_
      rintro e wf ⟨rfl, hbf⟩
      have HLf := Lib.hid (HLe.out.trans (hbf.mono HLe.out.size))
      clear hbf
      go_wp2_with fail
      go_ret
      exact ⟨rfl, HLf.out⟩
end Go.Proofs.Ytdopgdaobpcbjaa
