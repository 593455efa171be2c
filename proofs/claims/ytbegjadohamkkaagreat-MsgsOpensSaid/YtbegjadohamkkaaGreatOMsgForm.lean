/- The contract of msgs.Form, where those of its two arms are known. -/
import Derived.Test.YtbegjadohamkkaaGreatOMsgFill
import Derived.Test.YtbegjadohamkkaaGreatOS0
namespace Go.Proofs.YtbegjadohamkkaaGreat
open Go.RowKit Go.Sort

def inF (f : Int) : Bool := decide (1 ≤ f) && decide (f ≤ 4)
/-- Are the filled fields named? -/
def namedS (m : Mg) : Bool := bits .andNot .i64 (fillS m) (nameS m.kd) == 0
def isNodeS (n f : Int) : Bool := decide (0 ≤ n) && decide (n ≤ 3 * f + 1 - 1)
set_option maxHeartbeats 400000 in
set_option maxRecDepth 100000 in
theorem misnode (n : Int) {f : Int} (h2 : 1 ≤ f) (h3 : f ≤ 4) (w : World) : Calls Tryz.prog 90 #[.int .i64 n, .int .i64 f] w fun e w' => e = .returned (.bool (isNodeS n f)) ∧ w' = w := by
  have HN := Lib.hid (bnodes_any f)
  rw [nodesS_in h2 h3] at HN
  obtain ⟨t, ht⟩ : ∃ t, 3 * f + 1 = t := ⟨_, rfl⟩
  have ht1 : 4 ≤ t := by omega
  have ht2 : t ≤ 13 := by omega
  have HE := Lib.hid (show isNodeS n f = (decide (0 ≤ n) && decide (n ≤ t - 1)) by unfold isNodeS; rw [ht])
  rw [ht] at HN
  rw [HE.out]
  have HW := Lib.hid (mwithin n 0 (t - 1))
  obtain ⟨r, hr⟩ : ∃ r, (decide (0 ≤ n) && decide (n ≤ t - 1)) = r := ⟨_, rfl⟩
  rw [hr] at HW ⊢
  clear ht h2 h3 hr
  go_enter Tryz.func90, Tryz.ntmps90
  go_wp2_with fail
  refine (HN.out _).mono ?_
  rintro e w1 ⟨rfl, rfl⟩
  go_wp2_with fail
  refine (HW.out _).mono ?_
  rintro e w1 ⟨rfl, rfl⟩
  go_wp2_with fail
  go_ret
  exact ⟨rfl, rfl⟩
theorem blk_cells10 {w : World} {g t : Nat} {a0 a1 a2 a3 a4 a5 a6 a7 a8 a9 : Value} (h : Blk w g t #[a0, a1, a2, a3, a4, a5, a6, a7, a8, a9]) :
    (∀ d os, (grow (redrawn w d) os).cell? ⟨g, 0, none⟩ = some a0) ∧ (∀ d os, (grow (redrawn w d) os).cell? ⟨g, 1, none⟩ = some a1) ∧ (∀ d os, (grow (redrawn w d) os).cell? ⟨g, 2, none⟩ = some a2) ∧ (∀ d os, (grow (redrawn w d) os).cell? ⟨g, 3, none⟩ = some a3) ∧ (∀ d os, (grow (redrawn w d) os).cell? ⟨g, 4, none⟩ = some a4) ∧ (∀ d os, (grow (redrawn w d) os).cell? ⟨g, 5, none⟩ = some a5) ∧ (∀ d os, (grow (redrawn w d) os).cell? ⟨g, 6, none⟩ = some a6) ∧ (∀ d os, (grow (redrawn w d) os).cell? ⟨g, 7, none⟩ = some a7) ∧ (∀ d os, (grow (redrawn w d) os).cell? ⟨g, 8, none⟩ = some a8) ∧ (∀ d os, (grow (redrawn w d) os).cell? ⟨g, 9, none⟩ = some a9) :=
  ⟨cell_regrown (h.cell 0), cell_regrown (h.cell 1), cell_regrown (h.cell 2), cell_regrown (h.cell 3), cell_regrown (h.cell 4), cell_regrown (h.cell 5), cell_regrown (h.cell 6), cell_regrown (h.cell 7), cell_regrown (h.cell 8), cell_regrown (h.cell 9)⟩
/-- What Form tells, its arms' answers given. -/
def formW (m : Mg) (f : Int) (a b : Bool) : Bool := inF f && (namedS m && (if m.kd = 1 then a else isNodeS m.fr f && b))
set_option maxHeartbeats 4000000 in
theorem form_with (x : Ms) (f n : Int) (a b : Bool) (w : World)
    (HA : x.m.kd = 1 → inF f = true → ∀ w', Below w.heap.size w w' → Calls Tryz.prog 89 #[.agg #[.int .i64 x.m.kd, .int .i64 x.m.fr, .int .i64 x.m.vw, .int .i64 x.m.ins, .int .i64 x.m.sq, .int .i64 x.m.rs, .slice x.A1 x.m.bt.length x.c1, .slice x.A2 x.m.vs.length x.c2, .slice x.A3 x.m.cs.length x.c3, .slice x.A4 x.m.ps.length x.c4], .int .i64 n] w' fun e w2 => e = .returned (.bool a) ∧ Below w'.heap.size w' w2)
    (HC : x.m.kd ≠ 1 → inF f = true → ∀ w', Below w.heap.size w w' → Calls Tryz.prog 91 #[.agg #[.int .i64 x.m.kd, .int .i64 x.m.fr, .int .i64 x.m.vw, .int .i64 x.m.ins, .int .i64 x.m.sq, .int .i64 x.m.rs, .slice x.A1 x.m.bt.length x.c1, .slice x.A2 x.m.vs.length x.c2, .slice x.A3 x.m.cs.length x.c3, .slice x.A4 x.m.ps.length x.c4], .int .i64 f, .int .i64 n] w' fun e w2 => e = .returned (.bool b) ∧ Below w'.heap.size w' w2) :
    Calls Tryz.prog 29 #[.agg #[.int .i64 x.m.kd, .int .i64 x.m.fr, .int .i64 x.m.vw, .int .i64 x.m.ins, .int .i64 x.m.sq, .int .i64 x.m.rs, .slice x.A1 x.m.bt.length x.c1, .slice x.A2 x.m.vs.length x.c2, .slice x.A3 x.m.cs.length x.c3, .slice x.A4 x.m.ps.length x.c4], .int .i64 f, .int .i64 n] w fun e w' => e = .returned (.bool (formW x.m f a b)) ∧ Below w.heap.size w w' := by
  have hb1 : Below w.heap.size w (w.alloc (.cells #[.int .i64 x.m.kd, .int .i64 x.m.fr, .int .i64 x.m.vw, .int .i64 x.m.ins, .int .i64 x.m.sq, .int .i64 x.m.rs, .slice x.A1 x.m.bt.length x.c1, .slice x.A2 x.m.vs.length x.c2, .slice x.A3 x.m.cs.length x.c3, .slice x.A4 x.m.ps.length x.c4] 38)) := (Below.refl _ w).alloc (Nat.le_refl _) _
  have HB1 := Lib.hid hb1
  have HBl := Lib.hid (Blk.new w 38 #[.int .i64 x.m.kd, .int .i64 x.m.fr, .int .i64 x.m.vw, .int .i64 x.m.ins, .int .i64 x.m.sq, .int .i64 x.m.rs, .slice x.A1 x.m.bt.length x.c1, .slice x.A2 x.m.vs.length x.c2, .slice x.A3 x.m.cs.length x.c3, .slice x.A4 x.m.ps.length x.c4])
  have HAh := Lib.hid HA
  have HCh := Lib.hid HC
  have KW0 := Lib.hid (fun w => (mwithin f 1 4 w).mono (R' := fun e w' => e = .returned (.bool (inF f)) ∧ Below w.heap.size w w') (fun e w' h => ⟨h.1, by rw [h.2]; exact Below.refl _ _⟩))
  have KN0 := Lib.hid (fun w => (mnamed x.m.kd w).mono (R' := fun e w' => e = .returned (.int .i64 (nameS x.m.kd)) ∧ Below w.heap.size w w') (fun e w' h => ⟨h.1, by rw [h.2]; exact Below.refl _ _⟩))
  have KF0 := Lib.hid (fun w => mfilled x w)
  clear HA HC hb1
  cases hf : inF f
  case false =>
    have HE := Lib.hid (show formW x.m f a b = false by unfold formW; rw [hf]; rfl)
    rw [hf] at KW0
    rw [HE.out]
    clear hf HAh HCh
    go_enter Tryz.func29, Tryz.ntmps29
    go_wp2_with fail
    obtain ⟨w1, hw1⟩ : ∃ w1, (w.alloc (.cells #[.int .i64 x.m.kd, .int .i64 x.m.fr, .int .i64 x.m.vw, .int .i64 x.m.ins, .int .i64 x.m.sq, .int .i64 x.m.rs, .slice x.A1 x.m.bt.length x.c1, .slice x.A2 x.m.vs.length x.c2, .slice x.A3 x.m.cs.length x.c3, .slice x.A4 x.m.ps.length x.c4] 38)) = w1 := ⟨_, rfl⟩
    rw [hw1] at HB1 HBl ⊢
    clear hw1
    have KW := fun d os => Calls.regrown_of (KW0.out (grow (redrawn w1 d) os))
    have KF := fun d os => Calls.regrown_of (KF0.out (grow (redrawn w1 d) os))
    have KN := fun d os => Calls.regrown_of (KN0.out (grow (redrawn w1 d) os))
    obtain ⟨d0, d1, d2, d3, d4, d5, d6, d7, d8, d9⟩ := blk_cells10 HBl.out
    clear KF KN KF0 KN0 KW0 d0 d1 d2 d3 d4 d5 d6 d7 d8 d9
    refine wp_region_quiet_below (by kernel_rfl) (by kernel_rfl) ?_
    refine wq_out ?_
    refine wq_do (by kernel_rfl) (fun K hK => ?_)
    go_simp
    refine hK _ ?_
    clear hK K
    refine wq_do (by kernel_rfl) (fun K hK => ?_)
    go_simp
    apply Exists.intro
    refine ⟨fun a => ?_, hK _ ?_⟩
    · exact KW a.d a.os
    clear hK K
    refine wq_do (by kernel_rfl) (fun K hK => ?_)
    go_simp
    refine hK _ ?_
    clear hK K
    refine wq_do (by kernel_rfl) (fun K hK => ?_)
    go_simp
    refine hK _ ?_
    clear hK K
    refine wq_skip (by kernel_rfl) ?_
    refine wq_skip (by kernel_rfl) ?_
    refine wq_skip (by kernel_rfl) ?_
    refine wq_skip (by kernel_rfl) ?_
    refine wq_skip (by kernel_rfl) ?_
    refine wq_skip (by kernel_rfl) ?_
    refine wq_skip (by kernel_rfl) ?_
    refine wq_do (by kernel_rfl) (fun K hK => ?_)
    go_simp
    refine hK _ ?_
    clear hK K
    refine wq_nil ?_
    intro _ hw'
    obtain ⟨⟨dq, osq⟩, hw''⟩ := hw'
    subst hw''
    have HB3 := Lib.hid (HB1.out.trans ((below_regrown w1 dq osq).mono HB1.out.size))
    clear KW
    go_wp2_with fail
    go_ret
    exact ⟨rfl, HB3.out⟩
  case true =>
    have hfr := hf
    have h12 : 1 ≤ f ∧ f ≤ 4 := by simpa [inF] using hf
    have HI := Lib.hid (fun w => misnode x.m.fr h12.1 h12.2 w)
    rw [hf] at KW0
    have HF := Lib.hid hf
    clear hf hfr h12
    obtain ⟨z1, hz1⟩ : ∃ z, fillS x.m = z := ⟨_, rfl⟩
    obtain ⟨z2, hz2⟩ : ∃ z, nameS x.m.kd = z := ⟨_, rfl⟩
    have HZ := Lib.hid (show namedS x.m = (bits .andNot .i64 z1 z2 == 0) by unfold namedS; rw [hz1, hz2])
    rw [hz1] at KF0
    rw [hz2] at KN0
    clear hz1 hz2
    obtain ⟨z, hz⟩ : ∃ z, bits .andNot .i64 z1 z2 = z := ⟨_, rfl⟩
    cases hnm : (z == 0)
    case false =>
      have t0 : (z != 0) = true := by rw [bne, hnm]; rfl
      have HNM := Lib.hid (show namedS x.m = false by rw [HZ.out, hz, hnm])
      clear HZ
      go_enter Tryz.func29, Tryz.ntmps29
      go_wp2_with fail
      obtain ⟨w1, hw1⟩ : ∃ w1, (w.alloc (.cells #[.int .i64 x.m.kd, .int .i64 x.m.fr, .int .i64 x.m.vw, .int .i64 x.m.ins, .int .i64 x.m.sq, .int .i64 x.m.rs, .slice x.A1 x.m.bt.length x.c1, .slice x.A2 x.m.vs.length x.c2, .slice x.A3 x.m.cs.length x.c3, .slice x.A4 x.m.ps.length x.c4] 38)) = w1 := ⟨_, rfl⟩
      rw [hw1] at HB1 HBl ⊢
      clear hw1
      have KW := fun d os => Calls.regrown_of (KW0.out (grow (redrawn w1 d) os))
      have KF := fun d os => Calls.regrown_of (KF0.out (grow (redrawn w1 d) os))
      have KN := fun d os => Calls.regrown_of (KN0.out (grow (redrawn w1 d) os))
      obtain ⟨d0, d1, d2, d3, d4, d5, d6, d7, d8, d9⟩ := blk_cells10 HBl.out
      clear KF0 KN0 KW0
      refine wp_region_quiet_below (by kernel_rfl) (by kernel_rfl) ?_
      refine wq_out ?_
      refine wq_do (by kernel_rfl) (fun K hK => ?_)
      go_simp
      refine hK _ ?_
      clear hK K
      refine wq_do (by kernel_rfl) (fun K hK => ?_)
      go_simp
      apply Exists.intro
      refine ⟨fun a => ?_, hK _ ?_⟩
      · exact KW a.d a.os
      clear hK K
      refine wq_do (by kernel_rfl) (fun K hK => ?_)
      go_simp
      refine hK _ ?_
      clear hK K
      refine wq_do (by kernel_rfl) (fun K hK => ?_)
      go_simp
      refine hK _ ?_
      clear hK K
      refine wq_do (by kernel_rfl) (fun K hK => ?_)
      go_simp
      refine hK _ ?_
      clear hK K
      refine wq_do (by kernel_rfl) (fun K hK => ?_)
      go_simp
      apply Exists.intro
      refine ⟨fun a => ?_, hK _ ?_⟩
      · exact KF a.d a.os
      clear hK K
      refine wq_do (by kernel_rfl) (fun K hK => ?_)
      go_simp
      refine hK _ ?_
      clear hK K
      refine wq_do (by kernel_rfl) (fun K hK => ?_)
      go_simp
      refine hK _ ?_
      clear hK K
      refine wq_do (by kernel_rfl) (fun K hK => ?_)
      go_simp
      apply Exists.intro
      refine ⟨fun a => ?_, hK _ ?_⟩
      · exact KN a.d a.os
      clear hK K
      refine wq_do (by kernel_rfl) (fun K hK => ?_)
      go_simp
      refine hK _ ?_
      clear hK K
      refine wq_do (by kernel_rfl) (fun K hK => ?_)
      go_simp
      refine hK _ ?_
      clear hK K
      refine wq_do (by kernel_rfl) (fun K hK => ?_)
      go_simp
      refine hK _ ?_
      clear hK K
      refine wq_nil ?_
      intro _ hw'
      obtain ⟨⟨dq, osq⟩, hw''⟩ := hw'
      subst hw''
      have HB3 := Lib.hid (HB1.out.trans ((below_regrown w1 dq osq).mono HB1.out.size))
      have HBl3 := Lib.hid (HBl.out.below (below_regrown w1 dq osq) HBl.out.lt)
      clear KW KF KN
      clear d0 d1 d2 d3 d4 d5 d6 d7 d8 d9
      go_wp2_with fail
      go_ret
      exact ⟨by unfold formW; rw [HF.out, HNM.out]; rfl, HB3.out⟩
    case true =>
      have t0 : (z != 0) = false := by rw [bne, hnm]; rfl
      have HNM := Lib.hid (show namedS x.m = true by rw [HZ.out, hz, hnm])
      clear HZ
      go_enter Tryz.func29, Tryz.ntmps29
      go_wp2_with fail
      obtain ⟨w1, hw1⟩ : ∃ w1, (w.alloc (.cells #[.int .i64 x.m.kd, .int .i64 x.m.fr, .int .i64 x.m.vw, .int .i64 x.m.ins, .int .i64 x.m.sq, .int .i64 x.m.rs, .slice x.A1 x.m.bt.length x.c1, .slice x.A2 x.m.vs.length x.c2, .slice x.A3 x.m.cs.length x.c3, .slice x.A4 x.m.ps.length x.c4] 38)) = w1 := ⟨_, rfl⟩
      rw [hw1] at HB1 HBl ⊢
      clear hw1
      have KW := fun d os => Calls.regrown_of (KW0.out (grow (redrawn w1 d) os))
      have KF := fun d os => Calls.regrown_of (KF0.out (grow (redrawn w1 d) os))
      have KN := fun d os => Calls.regrown_of (KN0.out (grow (redrawn w1 d) os))
      obtain ⟨d0, d1, d2, d3, d4, d5, d6, d7, d8, d9⟩ := blk_cells10 HBl.out
      clear KF0 KN0 KW0
      refine wp_region_quiet_below (by kernel_rfl) (by kernel_rfl) ?_
      refine wq_out ?_
      refine wq_do (by kernel_rfl) (fun K hK => ?_)
      go_simp
      refine hK _ ?_
      clear hK K
      refine wq_do (by kernel_rfl) (fun K hK => ?_)
      go_simp
      apply Exists.intro
      refine ⟨fun a => ?_, hK _ ?_⟩
      · exact KW a.d a.os
      clear hK K
      refine wq_do (by kernel_rfl) (fun K hK => ?_)
      go_simp
      refine hK _ ?_
      clear hK K
      refine wq_do (by kernel_rfl) (fun K hK => ?_)
      go_simp
      refine hK _ ?_
      clear hK K
      refine wq_do (by kernel_rfl) (fun K hK => ?_)
      go_simp
      refine hK _ ?_
      clear hK K
      refine wq_do (by kernel_rfl) (fun K hK => ?_)
      go_simp
      apply Exists.intro
      refine ⟨fun a => ?_, hK _ ?_⟩
      · exact KF a.d a.os
      clear hK K
      refine wq_do (by kernel_rfl) (fun K hK => ?_)
      go_simp
      refine hK _ ?_
      clear hK K
      refine wq_do (by kernel_rfl) (fun K hK => ?_)
      go_simp
      refine hK _ ?_
      clear hK K
      refine wq_do (by kernel_rfl) (fun K hK => ?_)
      go_simp
      apply Exists.intro
      refine ⟨fun a => ?_, hK _ ?_⟩
      · exact KN a.d a.os
      clear hK K
      refine wq_do (by kernel_rfl) (fun K hK => ?_)
      go_simp
      refine hK _ ?_
      clear hK K
      refine wq_do (by kernel_rfl) (fun K hK => ?_)
      go_simp
      refine hK _ ?_
      clear hK K
      refine wq_do (by kernel_rfl) (fun K hK => ?_)
      go_simp
      refine hK _ ?_
      clear hK K
      refine wq_nil ?_
      intro _ hw'
      obtain ⟨⟨dq, osq⟩, hw''⟩ := hw'
      subst hw''
      have HB3 := Lib.hid (HB1.out.trans ((below_regrown w1 dq osq).mono HB1.out.size))
      have HBl3 := Lib.hid (HBl.out.below (below_regrown w1 dq osq) HBl.out.lt)
      clear KW KF KN
      have HE := Lib.hid (show formW x.m f a b = (if x.m.kd = 1 then a else isNodeS x.m.fr f && b) by unfold formW; rw [HF.out, HNM.out]; rfl)
      obtain ⟨w3, hw3⟩ : ∃ w3, grow (redrawn w1 dq) osq = w3 := ⟨_, rfl⟩
      rw [hw3] at HB3 HBl3 ⊢
      have e0 := HBl3.out.cell 0
      have e1 := HBl3.out.cell 1
      have e2 := HBl3.out.cell 2
      have e3 := HBl3.out.cell 3
      have e4 := HBl3.out.cell 4
      have e5 := HBl3.out.cell 5
      have e6 := HBl3.out.cell 6
      have e7 := HBl3.out.cell 7
      have e8 := HBl3.out.cell 8
      have e9 := HBl3.out.cell 9
      simp only [List.getElem?_toArray, List.getElem?_cons_zero, List.getElem?_cons_succ] at e0 e1 e2 e3 e4 e5 e6 e7 e8 e9
      clear hw3 d0 d1 d2 d3 d4 d5 d6 d7 d8 d9
      by_cases hk : x.m.kd = 1
      · have t1 : (x.m.kd == 1) = true := by simp [hk]
        have HR := Lib.hid (HAh.out hk HF.out)
        have HEE := Lib.hid (HE.out.trans (if_pos hk))
        clear hk HAh HCh
        go_wp2_with fail
        refine (HR.out _ HB3.out).mono ?_
        rintro e w4 ⟨rfl, hb4⟩
        go_wp2_with fail
        go_ret
        exact ⟨by rw [HEE.out]; rfl, HB3.out.trans (hb4.mono HB3.out.size)⟩
      · have t1 : (x.m.kd == 1) = false := by simp [hk]
        have HR := Lib.hid (HCh.out hk HF.out)
        have HEE := Lib.hid (HE.out.trans (if_neg hk))
        clear hk HAh HCh
        cases hi : isNodeS x.m.fr f
        · rw [hi] at HI HEE
          clear hi
          go_wp2_with fail
          refine (HI.out _).mono ?_
          rintro e w4 ⟨rfl, rfl⟩
          go_wp2_with fail
          go_ret
          exact ⟨by rw [HEE.out]; rfl, HB3.out⟩
        · rw [hi] at HI HEE
          clear hi
          go_wp2_with fail
          refine (HI.out _).mono ?_
          rintro e w4 ⟨rfl, rfl⟩
          go_wp2_with fail
          refine (HR.out _ HB3.out).mono ?_
          rintro e w4 ⟨rfl, hb4⟩
          go_wp2_with fail
          go_ret
          exact ⟨by rw [HEE.out]; rfl, HB3.out.trans (hb4.mono HB3.out.size)⟩
end Go.Proofs.YtbegjadohamkkaaGreat
