/- The contracts of package msgs' smaller forms: isSeal, placed, single, batchForm, votesForm, certForm, behind. -/
import Derived.Test.YtiffmjfbdidgkaaGreatOMsgFill
import Derived.Test.YtiffmjfbdidgkaaGreatOS1
import Derived.Test.YtiffmjfbdidgkaaGreatOS5
import Derived.Test.YtiffmjfbdidgkaaGreatOS0
import Derived.Test.YtiffmjfbdidgkaaGreatORefParts6
import Derived.Test.YtiffmjfbdidgkaaGreatOMsgBody
import Derived.Test.YtiffmjfbdidgkaaGreatOMsgKeep
import Derived.Test.YtiffmjfbdidgkaaGreatOMsgParse
import Derived.Deep.RegionHeld3
namespace Go.Proofs.YtiffmjfbdidgkaaGreat
open Go.RowKit

end Go.Proofs.YtiffmjfbdidgkaaGreat
/- The contracts of package msgs' votesForm, certForm, behind. -/
namespace Go.Proofs.YtiffmjfbdidgkaaGreat
open Go.RowKit

end Go.Proofs.YtiffmjfbdidgkaaGreat
/- The contract of msgs.Form, where those of its two arms are known. -/
namespace Go.Proofs.YtiffmjfbdidgkaaGreat
open Go.RowKit Go.Sort

def inF (f : Int) : Bool := decide (1 ≤ f) && decide (f ≤ 4)
/-- Are the filled fields named? -/
def namedS (m : Mg) : Bool := bits .andNot .i64 (fillS m) (nameS m.kd) == 0
def isNodeS (n f : Int) : Bool := decide (0 ≤ n) && decide (n ≤ 3 * f + 1 - 1)
set_option maxHeartbeats 400000 in
set_option maxRecDepth 100000 in
theorem misnode (n : Int) {f : Int} (h2 : 1 ≤ f) (h3 : f ≤ 4) (w : World) : Calls Tryz.prog 62 #[.int .i64 n, .int .i64 f] w fun e w' => e = .returned (.bool (isNodeS n f)) ∧ w' = w := by
  have HN := Lib.hid (bnodes_any f)
  rw [nodesS_in h2 h3] at HN
  obtain ⟨t, ht⟩ : ∃ t, 3 * f + 1 = t := ⟨_, rfl⟩
  have ht1 : 4 ≤ t := by omega
  have ht2 : t ≤ 13 := by omega
  have HE := Lib.hid (show isNodeS n f = (decide (0 ≤ n) && decide (n ≤ t - 1)) by unfold isNodeS; rw [ht])
  rw [ht] at HN
  rw [HE.out]
  have HW := Lib.hid (mwithin n 0 (t - 1))
  obtain ⟨r, hr⟩ : ∃ r, (decide (0 ≤ n) && decide (n ≤ t - 1)) = r := ⟨_, rfl⟩
  rw [hr] at HW ⊢
  clear ht h2 h3 hr
  go_enter Tryz.func62, Tryz.ntmps62
  go_wp2_with fail
  refine (HN.out _).mono ?_
  rintro e w1 ⟨rfl, rfl⟩
  go_wp2_with fail
  refine (HW.out _).mono ?_
  rintro e w1 ⟨rfl, rfl⟩
  go_wp2_with fail
  go_ret
  exact ⟨rfl, rfl⟩
theorem blk_cells10 {w : World} {g t : Nat} {a0 a1 a2 a3 a4 a5 a6 a7 a8 a9 : Value} (h : Blk w g t #[a0, a1, a2, a3, a4, a5, a6, a7, a8, a9]) :
    (∀ d os, (grow (redrawn w d) os).cell? ⟨g, 0, none⟩ = some a0) ∧ (∀ d os, (grow (redrawn w d) os).cell? ⟨g, 1, none⟩ = some a1) ∧ (∀ d os, (grow (redrawn w d) os).cell? ⟨g, 2, none⟩ = some a2) ∧ (∀ d os, (grow (redrawn w d) os).cell? ⟨g, 3, none⟩ = some a3) ∧ (∀ d os, (grow (redrawn w d) os).cell? ⟨g, 4, none⟩ = some a4) ∧ (∀ d os, (grow (redrawn w d) os).cell? ⟨g, 5, none⟩ = some a5) ∧ (∀ d os, (grow (redrawn w d) os).cell? ⟨g, 6, none⟩ = some a6) ∧ (∀ d os, (grow (redrawn w d) os).cell? ⟨g, 7, none⟩ = some a7) ∧ (∀ d os, (grow (redrawn w d) os).cell? ⟨g, 8, none⟩ = some a8) ∧ (∀ d os, (grow (redrawn w d) os).cell? ⟨g, 9, none⟩ = some a9) :=
  ⟨cell_regrown (h.cell 0), cell_regrown (h.cell 1), cell_regrown (h.cell 2), cell_regrown (h.cell 3), cell_regrown (h.cell 4), cell_regrown (h.cell 5), cell_regrown (h.cell 6), cell_regrown (h.cell 7), cell_regrown (h.cell 8), cell_regrown (h.cell 9)⟩
/-- What Form tells, its arms' answers given. -/
def formW (m : Mg) (f : Int) (a b : Bool) : Bool := inF f && (namedS m && (if m.kd = 1 then a else isNodeS m.fr f && b))
set_option maxHeartbeats 4000000 in
theorem form_with (x : Ms) (f n : Int) (a b : Bool) (w : World)
    (HA : x.m.kd = 1 → inF f = true → ∀ w', Below w.heap.size w w' → Calls Tryz.prog 61 #[.agg #[.int .i64 x.m.kd, .int .i64 x.m.fr, .int .i64 x.m.vw, .int .i64 x.m.ins, .int .i64 x.m.sq, .int .i64 x.m.rs, .slice x.A1 x.m.bt.length x.c1, .slice x.A2 x.m.vs.length x.c2, .slice x.A3 x.m.cs.length x.c3, .slice x.A4 x.m.ps.length x.c4], .int .i64 n] w' fun e w2 => e = .returned (.bool a) ∧ Below w'.heap.size w' w2)
    (HC : x.m.kd ≠ 1 → inF f = true → ∀ w', Below w.heap.size w w' → Calls Tryz.prog 63 #[.agg #[.int .i64 x.m.kd, .int .i64 x.m.fr, .int .i64 x.m.vw, .int .i64 x.m.ins, .int .i64 x.m.sq, .int .i64 x.m.rs, .slice x.A1 x.m.bt.length x.c1, .slice x.A2 x.m.vs.length x.c2, .slice x.A3 x.m.cs.length x.c3, .slice x.A4 x.m.ps.length x.c4], .int .i64 f, .int .i64 n] w' fun e w2 => e = .returned (.bool b) ∧ Below w'.heap.size w' w2) :
    Calls Tryz.prog 37 #[.agg #[.int .i64 x.m.kd, .int .i64 x.m.fr, .int .i64 x.m.vw, .int .i64 x.m.ins, .int .i64 x.m.sq, .int .i64 x.m.rs, .slice x.A1 x.m.bt.length x.c1, .slice x.A2 x.m.vs.length x.c2, .slice x.A3 x.m.cs.length x.c3, .slice x.A4 x.m.ps.length x.c4], .int .i64 f, .int .i64 n] w fun e w' => e = .returned (.bool (formW x.m f a b)) ∧ Below w.heap.size w w' := by
  have hb1 : Below w.heap.size w (w.alloc (.cells #[.int .i64 x.m.kd, .int .i64 x.m.fr, .int .i64 x.m.vw, .int .i64 x.m.ins, .int .i64 x.m.sq, .int .i64 x.m.rs, .slice x.A1 x.m.bt.length x.c1, .slice x.A2 x.m.vs.length x.c2, .slice x.A3 x.m.cs.length x.c3, .slice x.A4 x.m.ps.length x.c4] 35)) := (Below.refl _ w).alloc (Nat.le_refl _) _
  have HB1 := Lib.hid hb1
  have HBl := Lib.hid (Blk.new w 35 #[.int .i64 x.m.kd, .int .i64 x.m.fr, .int .i64 x.m.vw, .int .i64 x.m.ins, .int .i64 x.m.sq, .int .i64 x.m.rs, .slice x.A1 x.m.bt.length x.c1, .slice x.A2 x.m.vs.length x.c2, .slice x.A3 x.m.cs.length x.c3, .slice x.A4 x.m.ps.length x.c4])
  have HAh := Lib.hid HA
  have HCh := Lib.hid HC
  have KW0 := Lib.hid (fun w => (mwithin f 1 4 w).mono (R' := fun e w' => e = .returned (.bool (inF f)) ∧ Below w.heap.size w w') (fun e w' h => ⟨h.1, by rw [h.2]; exact Below.refl _ _⟩))
  have KN0 := Lib.hid (fun w => (mnamed x.m.kd w).mono (R' := fun e w' => e = .returned (.int .i64 (nameS x.m.kd)) ∧ Below w.heap.size w w') (fun e w' h => ⟨h.1, by rw [h.2]; exact Below.refl _ _⟩))
  have KF0 := Lib.hid (fun w => mfilled x w)
  clear HA HC hb1
  cases hf : inF f
  case false =>
    have HE := Lib.hid (show formW x.m f a b = false by unfold formW; rw [hf]; rfl)
    rw [hf] at KW0
    rw [HE.out]
    clear hf HAh HCh
    go_enter Tryz.func37, Tryz.ntmps37
    go_wp2_with fail
    obtain ⟨w1, hw1⟩ : ∃ w1, (w.alloc (.cells #[.int .i64 x.m.kd, .int .i64 x.m.fr, .int .i64 x.m.vw, .int .i64 x.m.ins, .int .i64 x.m.sq, .int .i64 x.m.rs, .slice x.A1 x.m.bt.length x.c1, .slice x.A2 x.m.vs.length x.c2, .slice x.A3 x.m.cs.length x.c3, .slice x.A4 x.m.ps.length x.c4] 35)) = w1 := ⟨_, rfl⟩
    rw [hw1] at HB1 HBl ⊢
    clear hw1
    have KW := fun d os => Calls.regrown_of (KW0.out (grow (redrawn w1 d) os))
    have KF := fun d os => Calls.regrown_of (KF0.out (grow (redrawn w1 d) os))
    have KN := fun d os => Calls.regrown_of (KN0.out (grow (redrawn w1 d) os))
    obtain ⟨d0, d1, d2, d3, d4, d5, d6, d7, d8, d9⟩ := blk_cells10 HBl.out
    clear KF KN KF0 KN0 KW0 d0 d1 d2 d3 d4 d5 d6 d7 d8 d9
    refine wp_region_quiet_below (by kernel_rfl) (by kernel_rfl) ?_
    refine wq_out ?_
    refine wq_do (by kernel_rfl) (fun K hK => ?_)
    go_simp
    refine hK _ ?_
    clear hK K
    refine wq_do (by kernel_rfl) (fun K hK => ?_)
    go_simp
    apply Exists.intro
    refine ⟨fun a => ?_, hK _ ?_⟩
    · exact KW a.d a.os
    clear hK K
    iterate 2 (refine wq_do (by kernel_rfl) (fun K hK => ?_); go_simp; refine hK _ ?_; clear hK K)
    iterate 7 (refine wq_skip (by kernel_rfl) ?_)
    refine wq_do (by kernel_rfl) (fun K hK => ?_)
    go_simp
    refine hK _ ?_
    clear hK K
    refine wq_nil ?_
    intro _ hw'
    obtain ⟨⟨dq, osq⟩, hw''⟩ := hw'
    subst hw''
    have HB3 := Lib.hid (HB1.out.trans ((below_regrown w1 dq osq).mono HB1.out.size))
    clear KW
    go_wp2_with fail
    go_ret
    exact ⟨rfl, HB3.out⟩
  case true =>
    have hfr := hf
    have h12 : 1 ≤ f ∧ f ≤ 4 := by simpa [inF] using hf
    have HI := Lib.hid (fun w => misnode x.m.fr h12.1 h12.2 w)
    rw [hf] at KW0
    have HF := Lib.hid hf
    clear hf hfr h12
    obtain ⟨z1, hz1⟩ : ∃ z, fillS x.m = z := ⟨_, rfl⟩
    obtain ⟨z2, hz2⟩ : ∃ z, nameS x.m.kd = z := ⟨_, rfl⟩
    have HZ := Lib.hid (show namedS x.m = (bits .andNot .i64 z1 z2 == 0) by unfold namedS; rw [hz1, hz2])
    rw [hz1] at KF0
    rw [hz2] at KN0
    clear hz1 hz2
    obtain ⟨z, hz⟩ : ∃ z, bits .andNot .i64 z1 z2 = z := ⟨_, rfl⟩
    cases hnm : (z == 0)
    case false =>
      have t0 : (z != 0) = true := by rw [bne, hnm]; rfl
      have HNM := Lib.hid (show namedS x.m = false by rw [HZ.out, hz, hnm])
      clear HZ
      go_enter Tryz.func37, Tryz.ntmps37
      go_wp2_with fail
      obtain ⟨w1, hw1⟩ : ∃ w1, (w.alloc (.cells #[.int .i64 x.m.kd, .int .i64 x.m.fr, .int .i64 x.m.vw, .int .i64 x.m.ins, .int .i64 x.m.sq, .int .i64 x.m.rs, .slice x.A1 x.m.bt.length x.c1, .slice x.A2 x.m.vs.length x.c2, .slice x.A3 x.m.cs.length x.c3, .slice x.A4 x.m.ps.length x.c4] 35)) = w1 := ⟨_, rfl⟩
      rw [hw1] at HB1 HBl ⊢
      clear hw1
      have KW := fun d os => Calls.regrown_of (KW0.out (grow (redrawn w1 d) os))
      have KF := fun d os => Calls.regrown_of (KF0.out (grow (redrawn w1 d) os))
      have KN := fun d os => Calls.regrown_of (KN0.out (grow (redrawn w1 d) os))
      obtain ⟨d0, d1, d2, d3, d4, d5, d6, d7, d8, d9⟩ := blk_cells10 HBl.out
      clear KF0 KN0 KW0
      refine wp_region_quiet_below (by kernel_rfl) (by kernel_rfl) ?_
      refine wq_out ?_
      refine wq_do (by kernel_rfl) (fun K hK => ?_)
      go_simp
      refine hK _ ?_
      clear hK K
      refine wq_do (by kernel_rfl) (fun K hK => ?_)
      go_simp
      apply Exists.intro
      refine ⟨fun a => ?_, hK _ ?_⟩
      · exact KW a.d a.os
      clear hK K
      iterate 3 (refine wq_do (by kernel_rfl) (fun K hK => ?_); go_simp; refine hK _ ?_; clear hK K)
      refine wq_do (by kernel_rfl) (fun K hK => ?_)
      go_simp
      apply Exists.intro
      refine ⟨fun a => ?_, hK _ ?_⟩
      · exact KF a.d a.os
      clear hK K
      iterate 2 (refine wq_do (by kernel_rfl) (fun K hK => ?_); go_simp; refine hK _ ?_; clear hK K)
      refine wq_do (by kernel_rfl) (fun K hK => ?_)
      go_simp
      apply Exists.intro
      refine ⟨fun a => ?_, hK _ ?_⟩
      · exact KN a.d a.os
      clear hK K
      iterate 3 (refine wq_do (by kernel_rfl) (fun K hK => ?_); go_simp; refine hK _ ?_; clear hK K)
      refine wq_nil ?_
      intro _ hw'
      obtain ⟨⟨dq, osq⟩, hw''⟩ := hw'
      subst hw''
      have HB3 := Lib.hid (HB1.out.trans ((below_regrown w1 dq osq).mono HB1.out.size))
      have HBl3 := Lib.hid (HBl.out.below (below_regrown w1 dq osq) HBl.out.lt)
      clear KW KF KN
      clear d0 d1 d2 d3 d4 d5 d6 d7 d8 d9
      go_wp2_with fail
      go_ret
      exact ⟨by unfold formW; rw [HF.out, HNM.out]; rfl, HB3.out⟩
    case true =>
      have t0 : (z != 0) = false := by rw [bne, hnm]; rfl
      have HNM := Lib.hid (show namedS x.m = true by rw [HZ.out, hz, hnm])
      clear HZ
      go_enter Tryz.func37, Tryz.ntmps37
      go_wp2_with fail
      obtain ⟨w1, hw1⟩ : ∃ w1, (w.alloc (.cells #[.int .i64 x.m.kd, .int .i64 x.m.fr, .int .i64 x.m.vw, .int .i64 x.m.ins, .int .i64 x.m.sq, .int .i64 x.m.rs, .slice x.A1 x.m.bt.length x.c1, .slice x.A2 x.m.vs.length x.c2, .slice x.A3 x.m.cs.length x.c3, .slice x.A4 x.m.ps.length x.c4] 35)) = w1 := ⟨_, rfl⟩
      rw [hw1] at HB1 HBl ⊢
      clear hw1
      have KW := fun d os => Calls.regrown_of (KW0.out (grow (redrawn w1 d) os))
      have KF := fun d os => Calls.regrown_of (KF0.out (grow (redrawn w1 d) os))
      have KN := fun d os => Calls.regrown_of (KN0.out (grow (redrawn w1 d) os))
      obtain ⟨d0, d1, d2, d3, d4, d5, d6, d7, d8, d9⟩ := blk_cells10 HBl.out
      clear KF0 KN0 KW0
      refine wp_region_quiet_below (by kernel_rfl) (by kernel_rfl) ?_
      refine wq_out ?_
      refine wq_do (by kernel_rfl) (fun K hK => ?_)
      go_simp
      refine hK _ ?_
      clear hK K
      refine wq_do (by kernel_rfl) (fun K hK => ?_)
      go_simp
      apply Exists.intro
      refine ⟨fun a => ?_, hK _ ?_⟩
      · exact KW a.d a.os
      clear hK K
      iterate 3 (refine wq_do (by kernel_rfl) (fun K hK => ?_); go_simp; refine hK _ ?_; clear hK K)
      refine wq_do (by kernel_rfl) (fun K hK => ?_)
      go_simp
      apply Exists.intro
      refine ⟨fun a => ?_, hK _ ?_⟩
      · exact KF a.d a.os
      clear hK K
      iterate 2 (refine wq_do (by kernel_rfl) (fun K hK => ?_); go_simp; refine hK _ ?_; clear hK K)
      refine wq_do (by kernel_rfl) (fun K hK => ?_)
      go_simp
      apply Exists.intro
      refine ⟨fun a => ?_, hK _ ?_⟩
      · exact KN a.d a.os
      clear hK K
      iterate 3 (refine wq_do (by kernel_rfl) (fun K hK => ?_); go_simp; refine hK _ ?_; clear hK K)
      refine wq_nil ?_
      intro _ hw'
      obtain ⟨⟨dq, osq⟩, hw''⟩ := hw'
      subst hw''
      have HB3 := Lib.hid (HB1.out.trans ((below_regrown w1 dq osq).mono HB1.out.size))
      have HBl3 := Lib.hid (HBl.out.below (below_regrown w1 dq osq) HBl.out.lt)
      clear KW KF KN
      have HE := Lib.hid (show formW x.m f a b = (if x.m.kd = 1 then a else isNodeS x.m.fr f && b) by unfold formW; rw [HF.out, HNM.out]; rfl)
      obtain ⟨w3, hw3⟩ : ∃ w3, grow (redrawn w1 dq) osq = w3 := ⟨_, rfl⟩
      rw [hw3] at HB3 HBl3 ⊢
      have e0 := HBl3.out.cell 0
      have e1 := HBl3.out.cell 1
      have e2 := HBl3.out.cell 2
      have e3 := HBl3.out.cell 3
      have e4 := HBl3.out.cell 4
      have e5 := HBl3.out.cell 5
      have e6 := HBl3.out.cell 6
      have e7 := HBl3.out.cell 7
      have e8 := HBl3.out.cell 8
      have e9 := HBl3.out.cell 9
      simp only [List.getElem?_toArray, List.getElem?_cons_zero, List.getElem?_cons_succ] at e0 e1 e2 e3 e4 e5 e6 e7 e8 e9
      clear hw3 d0 d1 d2 d3 d4 d5 d6 d7 d8 d9
      by_cases hk : x.m.kd = 1
      · have t1 : (x.m.kd == 1) = true := by simp [hk]
        have HR := Lib.hid (HAh.out hk HF.out)
        have HEE := Lib.hid (HE.out.trans (if_pos hk))
        clear hk HAh HCh
        go_wp2_with fail
        refine (HR.out _ HB3.out).mono ?_
        rintro e w4 ⟨rfl, hb4⟩
        go_wp2_with fail
        go_ret
        exact ⟨by rw [HEE.out]; rfl, HB3.out.trans (hb4.mono HB3.out.size)⟩
      · have t1 : (x.m.kd == 1) = false := by simp [hk]
        have HR := Lib.hid (HCh.out hk HF.out)
        have HEE := Lib.hid (HE.out.trans (if_neg hk))
        clear hk HAh HCh
        cases hi : isNodeS x.m.fr f
        · rw [hi] at HI HEE
          clear hi
          go_wp2_with fail
          refine (HI.out _).mono ?_
          rintro e w4 ⟨rfl, rfl⟩
          go_wp2_with fail
          go_ret
          exact ⟨by rw [HEE.out]; rfl, HB3.out⟩
        · rw [hi] at HI HEE
          clear hi
          go_wp2_with fail
          refine (HI.out _).mono ?_
          rintro e w4 ⟨rfl, rfl⟩
          go_wp2_with fail
          refine (HR.out _ HB3.out).mono ?_
          rintro e w4 ⟨rfl, hb4⟩
          go_wp2_with fail
          go_ret
          exact ⟨by rw [HEE.out]; rfl, HB3.out.trans (hb4.mono HB3.out.size)⟩
end Go.Proofs.YtiffmjfbdidgkaaGreat
/- The contract of the document's parts, whatever their number; of has. -/
namespace Go.Proofs.YtiffmjfbdidgkaaGreat
open Go.RowKit Go.Sort

end Go.Proofs.YtiffmjfbdidgkaaGreat
/- The contract of msgs.Form at votes to leave a view. -/
namespace Go.Proofs.YtiffmjfbdidgkaaGreat
open Go.RowKit

set_option maxHeartbeats 1000000 in
theorem nodeform6 (x : Ms) (hk : x.m.kd = 6) (f n : Int) (w : World) :
    Calls Tryz.prog 63 #[.agg #[.int .i64 x.m.kd, .int .i64 x.m.fr, .int .i64 x.m.vw, .int .i64 x.m.ins, .int .i64 x.m.sq, .int .i64 x.m.rs, .slice x.A1 x.m.bt.length x.c1, .slice x.A2 x.m.vs.length x.c2, .slice x.A3 x.m.cs.length x.c3, .slice x.A4 x.m.ps.length x.c4], .int .i64 f, .int .i64 n] w
      fun e w' => e = .returned (.bool (decide (0 ≤ x.m.vw) && decide (x.m.vw ≤ 11))) ∧ Below w.heap.size w w' := by
  rw [hk]
  have HB := Lib.hid (fun cs => show Below w.heap.size w (w.alloc (.cells cs 35)) from (Below.refl _ w).alloc (Nat.le_refl _) _)
  have HW := Lib.hid (mwithin x.m.vw 0 11)
  obtain ⟨r, hr⟩ : ∃ r, (decide (0 ≤ x.m.vw) && decide (x.m.vw ≤ 11)) = r := ⟨_, rfl⟩
  rw [hr] at HW ⊢
  clear hk hr
  go_enter Tryz.func63, Tryz.ntmps63
  go_wp2_with fail
  refine (HW.out _).mono ?_
  rintro e w1 ⟨rfl, rfl⟩
  go_wp2_with fail
  go_ret
  exact ⟨rfl, HB.out _⟩
end Go.Proofs.YtiffmjfbdidgkaaGreat
/- The contract of msgs.Seal. -/
namespace Go.Proofs.YtiffmjfbdidgkaaGreat
open Go.RowKit

/-- What a message's seal is given for. -/
def deedM (m : Mg) (bs : List Int) : Deed := (m.fr, strOfNums bs)
/-- What Seal does and answers. -/
def SealPost (m : Mg) (l : List Deed) (nb bm : Nat) (w : World) (e : Ending) (w' : World) : Prop :=
  (bodyM m = none ∧ e = .returned (.tuple #[.slice none 0 0, .bool false]) ∧ Below w.heap.size w w') ∨
  (∃ bs, bodyM m = some bs ∧ Nt w' nb bm (sealed l (deedM m bs)) ∧ Turn (fun k => k = bm) w w' ∧
    ((∃ es A c, envS (sealS l (deedM m bs)) bs = some es ∧ e = .returned (.tuple #[.slice A es.length c, .bool true]) ∧ w'.ownsRow w.heap.size 5 1 (.slice A es.length c) es.length (u8s es)) ∨
      (envS (sealS l (deedM m bs)) bs = none ∧ e = .returned (.tuple #[.slice none 0 0, .bool false]))))
set_option maxHeartbeats 4000000 in
set_option maxRecDepth 100000 in
theorem mseal_any (x : Ms) {w : World} (h : x.In w w.heap.size) (hsz : 6 * x.m.toks.length ≤ 70368744177664) (hfr : fit x.m.fr) {nb bm : Nat} {l : List Deed} (hN : Nt w nb bm l) (hlen : l.length ≤ 1000000) :
    Calls Tryz.prog 20 #[.agg #[.int .i64 x.m.kd, .int .i64 x.m.fr, .int .i64 x.m.vw, .int .i64 x.m.ins, .int .i64 x.m.sq, .int .i64 x.m.rs, .slice x.A1 x.m.bt.length x.c1, .slice x.A2 x.m.vs.length x.c2, .slice x.A3 x.m.cs.length x.c3, .slice x.A4 x.m.ps.length x.c4], .pointer (some ⟨nb, 0, none⟩)] w (SealPost x.m l nb bm w) := by
  have hb1 : Below w.heap.size w (w.alloc (.cells #[.int .i64 x.m.kd, .int .i64 x.m.fr, .int .i64 x.m.vw, .int .i64 x.m.ins, .int .i64 x.m.sq, .int .i64 x.m.rs, .slice x.A1 x.m.bt.length x.c1, .slice x.A2 x.m.vs.length x.c2, .slice x.A3 x.m.cs.length x.c3, .slice x.A4 x.m.ps.length x.c4] 35)) := (Below.refl _ w).alloc (Nat.le_refl _) _
  have HB1 := Lib.hid hb1
  have HBl := Lib.hid (Blk.new w 35 #[.int .i64 x.m.kd, .int .i64 x.m.fr, .int .i64 x.m.vw, .int .i64 x.m.ins, .int .i64 x.m.sq, .int .i64 x.m.rs, .slice x.A1 x.m.bt.length x.c1, .slice x.A2 x.m.vs.length x.c2, .slice x.A3 x.m.cs.length x.c3, .slice x.A4 x.m.ps.length x.c4])
  have HI := Lib.hid ((h.reads (Reads.below hb1 (Nat.le_refl _))).reads (Reads.more hb1.size))
  have HN := Lib.hid (hN.below hb1)
  have HL := Lib.hid hN.lt
  clear h hN hb1
  go_enter Tryz.func20, Tryz.ntmps20
  go_wp2_with fail
  obtain ⟨w1, hw1⟩ : ∃ w1, (w.alloc (.cells #[.int .i64 x.m.kd, .int .i64 x.m.fr, .int .i64 x.m.vw, .int .i64 x.m.ins, .int .i64 x.m.sq, .int .i64 x.m.rs, .slice x.A1 x.m.bt.length x.c1, .slice x.A2 x.m.vs.length x.c2, .slice x.A3 x.m.cs.length x.c3, .slice x.A4 x.m.ps.length x.c4] 35)) = w1 := ⟨_, rfl⟩
  rw [hw1] at HB1 HBl HI HN ⊢
  clear hw1
  refine (body_any x w1 HI.out hsz).mono ?_
  rintro e w2 ⟨hb2, ⟨bs, A, c, hbs, rfl, ho⟩ | ⟨hbs, rfl⟩⟩
  · have HB2 := Lib.hid hb2
    have HBS := Lib.hid hbs
    have HO := Lib.hid ho
    obtain ⟨n, hn⟩ : ∃ n, bs.length = n := ⟨_, rfl⟩
    have hn1 : n ≤ 65536 := by rw [← hn]; exact bodyM_len hbs
    rw [hn] at HO ⊢
    have HNn := Lib.hid hn
    have d1 := (HBl.out.below hb2 HBl.out.lt).cell 1
    simp only [List.getElem?_toArray, List.getElem?_cons_zero, List.getElem?_cons_succ] at d1
    clear hb2 hbs ho hn
    go_wp2_with fail
    refine (seal_any (HN.out.below HB2.out) hlen hfr (Has.own HO.out) HNn.out (by unfold maxLen; omega)).mono ?_
    rintro e w3 ⟨rfl, hnt, ht⟩
    have ho3 := ht.own HO.out (fun g hg => by
      have h1 := (HO.out.lt g hg).1
      have h2 := HL.out.2
      have h3 := HB1.out.size
      omega)
    have HT := Lib.hid ((((Turn.of_below (Z := fun k => k = bm) HB1.out).trans (Turn.of_below HB2.out))).trans ht)
    have HN3 := Lib.hid hnt
    have HO3 := Lib.hid ho3
    obtain ⟨sl, hsl⟩ : ∃ sl, sealS l (x.m.fr, strOfNums bs) = sl := ⟨_, rfl⟩
    rw [hsl]
    have HSl := Lib.hid hsl
    clear hnt ht ho3 hsl d1
    go_wp2_with fail
    refine (envelope_any sl HNn.out (by omega) _ (Has.own HO3.out) (gr_none HO3.out)).mono ?_
    rintro e w4 ⟨hb4, ⟨es, A4, c4, hes, rfl, ho4⟩ | ⟨hes, rfl⟩⟩
    · have HT4 := Lib.hid (HT.out.trans (Turn.of_below hb4))
      have HN4 := Lib.hid (HN3.out.below hb4)
      have HE := Lib.hid hes
      have hle : w.heap.size ≤ w3.heap.size := HT.out.size
      have HO4 := Lib.hid (own_down ho4 hle)
      clear hb4 hes ho4 hle
      go_wp2_with fail
      go_ret2
      refine Or.inr ⟨bs, HBS.out, HN4.out, HT4.out, ?_⟩
      unfold deedM
      rw [HSl.out]
      exact Or.inl ⟨es, A4, c4, HE.out, rfl, HO4.out⟩
    · have HT4 := Lib.hid (HT.out.trans (Turn.of_below hb4))
      have HN4 := Lib.hid (HN3.out.below hb4)
      have HE := Lib.hid hes
      clear hb4 hes
      go_wp2_with fail
      go_ret2
      refine Or.inr ⟨bs, HBS.out, HN4.out, HT4.out, ?_⟩
      unfold deedM
      rw [HSl.out]
      exact Or.inr ⟨HE.out, rfl⟩
  · have HB2 := Lib.hid (HB1.out.trans (hb2.mono HB1.out.size))
    have HBS := Lib.hid hbs
    clear hb2 hbs
    go_wp2_with fail
    go_ret2
    exact Or.inl ⟨HBS.out, rfl, HB2.out⟩
end Go.Proofs.YtiffmjfbdidgkaaGreat
/- The contract of keep.Heavy: has a message more than is played? -/
namespace Go.Proofs.YtiffmjfbdidgkaaGreat
open Go.RowKit

end Go.Proofs.YtiffmjfbdidgkaaGreat
/- The contracts of msgs.Ballot and of the document's own. -/
namespace Go.Proofs.YtiffmjfbdidgkaaGreat
open Go.RowKit

end Go.Proofs.YtiffmjfbdidgkaaGreat
