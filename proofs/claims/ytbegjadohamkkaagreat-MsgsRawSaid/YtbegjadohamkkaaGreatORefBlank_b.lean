/- The contract of the document's blank where the text names b. -/
import Derived.Test.YtbegjadohamkkaaGreatOS5
import Derived.Test.YtbegjadohamkkaaGreatOS0
import Derived.Deep.DeepCutAuto
namespace Go.Proofs.YtbegjadohamkkaaGreat
open Go.RowKit

set_option maxHeartbeats 8000000 in
set_option maxRecDepth 100000 in
theorem rblank_b (m : Ms) (w : World) :
    Calls Tryz.prog 79 #[.agg #[.int .i64 m.m.kd, .int .i64 m.m.fr, .int .i64 m.m.vw, .int .i64 m.m.ins, .int .i64 m.m.sq, .int .i64 m.m.rs, .slice m.A1 m.m.bt.length m.c1, .slice m.A2 m.m.vs.length m.c2, .slice m.A3 m.m.cs.length m.c3, .slice m.A4 m.m.ps.length m.c4], .string ⟨#[98]⟩] w fun e w' => e = .returned (.bool (blankS false false false false true false false false m.m)) ∧ Below w.heap.size w w' := by
  have HB := Lib.hid (show Below w.heap.size w (w.alloc (.cells #[.int .i64 m.m.kd, .int .i64 m.m.fr, .int .i64 m.m.vw, .int .i64 m.m.ins, .int .i64 m.m.sq, .int .i64 m.m.rs, .slice m.A1 m.m.bt.length m.c1, .slice m.A2 m.m.vs.length m.c2, .slice m.A3 m.m.cs.length m.c3, .slice m.A4 m.m.ps.length m.c4] 38)) from (Below.refl _ w).alloc (Nat.le_refl _) _)
  have S118 : ∀ w : World, Calls Tryz.prog 128 #[.string ⟨#[98]⟩, .int .u8 118] w fun e w' => e = .returned (.bool false) ∧ w' = w := fun w => (rsign_any ⟨#[98]⟩ 118 (by decide) w).mono (fun e w' h => ⟨h.1.trans (by rfl), h.2⟩)
  have S105 : ∀ w : World, Calls Tryz.prog 128 #[.string ⟨#[98]⟩, .int .u8 105] w fun e w' => e = .returned (.bool false) ∧ w' = w := fun w => (rsign_any ⟨#[98]⟩ 105 (by decide) w).mono (fun e w' h => ⟨h.1.trans (by rfl), h.2⟩)
  have S115 : ∀ w : World, Calls Tryz.prog 128 #[.string ⟨#[98]⟩, .int .u8 115] w fun e w' => e = .returned (.bool false) ∧ w' = w := fun w => (rsign_any ⟨#[98]⟩ 115 (by decide) w).mono (fun e w' h => ⟨h.1.trans (by rfl), h.2⟩)
  have S114 : ∀ w : World, Calls Tryz.prog 128 #[.string ⟨#[98]⟩, .int .u8 114] w fun e w' => e = .returned (.bool false) ∧ w' = w := fun w => (rsign_any ⟨#[98]⟩ 114 (by decide) w).mono (fun e w' h => ⟨h.1.trans (by rfl), h.2⟩)
  have S98 : ∀ w : World, Calls Tryz.prog 128 #[.string ⟨#[98]⟩, .int .u8 98] w fun e w' => e = .returned (.bool true) ∧ w' = w := fun w => (rsign_any ⟨#[98]⟩ 98 (by decide) w).mono (fun e w' h => ⟨h.1.trans (by rfl), h.2⟩)
  have S111 : ∀ w : World, Calls Tryz.prog 128 #[.string ⟨#[98]⟩, .int .u8 111] w fun e w' => e = .returned (.bool false) ∧ w' = w := fun w => (rsign_any ⟨#[98]⟩ 111 (by decide) w).mono (fun e w' h => ⟨h.1.trans (by rfl), h.2⟩)
  have S99 : ∀ w : World, Calls Tryz.prog 128 #[.string ⟨#[98]⟩, .int .u8 99] w fun e w' => e = .returned (.bool false) ∧ w' = w := fun w => (rsign_any ⟨#[98]⟩ 99 (by decide) w).mono (fun e w' h => ⟨h.1.trans (by rfl), h.2⟩)
  have S112 : ∀ w : World, Calls Tryz.prog 128 #[.string ⟨#[98]⟩, .int .u8 112] w fun e w' => e = .returned (.bool false) ∧ w' = w := fun w => (rsign_any ⟨#[98]⟩ 112 (by decide) w).mono (fun e w' h => ⟨h.1.trans (by rfl), h.2⟩)
  go_enter Tryz.func79, Tryz.ntmps79
  go_upto_region 1 with fail
  refine wp_region_lit ?_
  refine wl_out ?_
  refine wl_do (by kernel_rfl) (fun K hK => ?_)
  go_simp
  refine hK _ _ ?_
  clear hK K
  refine wl_do (by kernel_rfl) (fun K hK => ?_)
  go_simp
  refine (S118 _).mono ?_
  rintro e w' ⟨rfl, rfl⟩
  go_simp
  refine hK _ _ ?_
  clear hK K
  refine wl_do (by kernel_rfl) (fun K hK => ?_)
  go_simp
  refine hK _ _ ?_
  clear hK K
  by_cases h0 : m.m.vw = 0
  case neg =>
    have Z0 := Lib.hid (show (m.m.vw == 0) = false by simpa using h0)
    have z0 := Z0.out
    clear h0
    iterate 5 (refine wl_do (by kernel_rfl) (fun K hK => ?_); go_simp; refine hK _ _ ?_; clear hK K)
    iterate 7 (refine wl_skip (by kernel_rfl) ?_)
    iterate 2 (refine wl_do (by kernel_rfl) (fun K hK => ?_); go_simp; refine hK _ _ ?_; clear hK K)
    iterate 7 (refine wl_skip (by kernel_rfl) ?_)
    iterate 2 (refine wl_do (by kernel_rfl) (fun K hK => ?_); go_simp; refine hK _ _ ?_; clear hK K)
    iterate 7 (refine wl_skip (by kernel_rfl) ?_)
    iterate 2 (refine wl_do (by kernel_rfl) (fun K hK => ?_); go_simp; refine hK _ _ ?_; clear hK K)
    iterate 8 (refine wl_skip (by kernel_rfl) ?_)
    iterate 2 (refine wl_do (by kernel_rfl) (fun K hK => ?_); go_simp; refine hK _ _ ?_; clear hK K)
    iterate 8 (refine wl_skip (by kernel_rfl) ?_)
    iterate 2 (refine wl_do (by kernel_rfl) (fun K hK => ?_); go_simp; refine hK _ _ ?_; clear hK K)
    iterate 8 (refine wl_skip (by kernel_rfl) ?_)
    iterate 2 (refine wl_do (by kernel_rfl) (fun K hK => ?_); go_simp; refine hK _ _ ?_; clear hK K)
    iterate 8 (refine wl_skip (by kernel_rfl) ?_)
    iterate 2 (refine wl_do (by kernel_rfl) (fun K hK => ?_); go_simp; refine hK _ _ ?_; clear hK K)
    refine wl_nil ?_
    clear S118 S105 S115 S114 S98 S111 S99 S112
    go_wp2_with fail
    go_ret
    exact ⟨congrArg (fun b => Ending.returned (.bool b)) (show false = blankS false false false false true false false false m.m by unfold blankS; rw [Z0.out]; simp), HB.out⟩
  have Z0 := Lib.hid (show (m.m.vw == 0) = true by simpa using h0)
  have z0 := Z0.out
  clear h0
  iterate 6 (refine wl_do (by kernel_rfl) (fun K hK => ?_); go_simp; refine hK _ _ ?_; clear hK K)
  refine wl_do (by kernel_rfl) (fun K hK => ?_)
  go_simp
  refine (S105 _).mono ?_
  rintro e w' ⟨rfl, rfl⟩
  go_simp
  refine hK _ _ ?_
  clear hK K
  refine wl_do (by kernel_rfl) (fun K hK => ?_)
  go_simp
  refine hK _ _ ?_
  clear hK K
  by_cases h1 : m.m.ins = 0
  case neg =>
    have Z1 := Lib.hid (show (m.m.ins == 0) = false by simpa using h1)
    have z1 := Z1.out
    clear h1
    iterate 6 (refine wl_do (by kernel_rfl) (fun K hK => ?_); go_simp; refine hK _ _ ?_; clear hK K)
    iterate 7 (refine wl_skip (by kernel_rfl) ?_)
    iterate 2 (refine wl_do (by kernel_rfl) (fun K hK => ?_); go_simp; refine hK _ _ ?_; clear hK K)
    iterate 7 (refine wl_skip (by kernel_rfl) ?_)
    iterate 2 (refine wl_do (by kernel_rfl) (fun K hK => ?_); go_simp; refine hK _ _ ?_; clear hK K)
    iterate 8 (refine wl_skip (by kernel_rfl) ?_)
    iterate 2 (refine wl_do (by kernel_rfl) (fun K hK => ?_); go_simp; refine hK _ _ ?_; clear hK K)
    iterate 8 (refine wl_skip (by kernel_rfl) ?_)
    iterate 2 (refine wl_do (by kernel_rfl) (fun K hK => ?_); go_simp; refine hK _ _ ?_; clear hK K)
    iterate 8 (refine wl_skip (by kernel_rfl) ?_)
    iterate 2 (refine wl_do (by kernel_rfl) (fun K hK => ?_); go_simp; refine hK _ _ ?_; clear hK K)
    iterate 8 (refine wl_skip (by kernel_rfl) ?_)
    iterate 2 (refine wl_do (by kernel_rfl) (fun K hK => ?_); go_simp; refine hK _ _ ?_; clear hK K)
    refine wl_nil ?_
    clear S118 S105 S115 S114 S98 S111 S99 S112
    go_wp2_with fail
    go_ret
    exact ⟨congrArg (fun b => Ending.returned (.bool b)) (show false = blankS false false false false true false false false m.m by unfold blankS; rw [Z1.out]; simp), HB.out⟩
  have Z1 := Lib.hid (show (m.m.ins == 0) = true by simpa using h1)
  have z1 := Z1.out
  clear h1
  iterate 7 (refine wl_do (by kernel_rfl) (fun K hK => ?_); go_simp; refine hK _ _ ?_; clear hK K)
  refine wl_do (by kernel_rfl) (fun K hK => ?_)
  go_simp
  refine (S115 _).mono ?_
  rintro e w' ⟨rfl, rfl⟩
  go_simp
  refine hK _ _ ?_
  clear hK K
  refine wl_do (by kernel_rfl) (fun K hK => ?_)
  go_simp
  refine hK _ _ ?_
  clear hK K
  by_cases h2 : m.m.sq = 0
  case neg =>
    have Z2 := Lib.hid (show (m.m.sq == 0) = false by simpa using h2)
    have z2 := Z2.out
    clear h2
    iterate 6 (refine wl_do (by kernel_rfl) (fun K hK => ?_); go_simp; refine hK _ _ ?_; clear hK K)
    iterate 7 (refine wl_skip (by kernel_rfl) ?_)
    iterate 2 (refine wl_do (by kernel_rfl) (fun K hK => ?_); go_simp; refine hK _ _ ?_; clear hK K)
    iterate 8 (refine wl_skip (by kernel_rfl) ?_)
    iterate 2 (refine wl_do (by kernel_rfl) (fun K hK => ?_); go_simp; refine hK _ _ ?_; clear hK K)
    iterate 8 (refine wl_skip (by kernel_rfl) ?_)
    iterate 2 (refine wl_do (by kernel_rfl) (fun K hK => ?_); go_simp; refine hK _ _ ?_; clear hK K)
    iterate 8 (refine wl_skip (by kernel_rfl) ?_)
    iterate 2 (refine wl_do (by kernel_rfl) (fun K hK => ?_); go_simp; refine hK _ _ ?_; clear hK K)
    iterate 8 (refine wl_skip (by kernel_rfl) ?_)
    iterate 2 (refine wl_do (by kernel_rfl) (fun K hK => ?_); go_simp; refine hK _ _ ?_; clear hK K)
    refine wl_nil ?_
    clear S118 S105 S115 S114 S98 S111 S99 S112
    go_wp2_with fail
    go_ret
    exact ⟨congrArg (fun b => Ending.returned (.bool b)) (show false = blankS false false false false true false false false m.m by unfold blankS; rw [Z2.out]; simp), HB.out⟩
  have Z2 := Lib.hid (show (m.m.sq == 0) = true by simpa using h2)
  have z2 := Z2.out
  clear h2
  iterate 7 (refine wl_do (by kernel_rfl) (fun K hK => ?_); go_simp; refine hK _ _ ?_; clear hK K)
  refine wl_do (by kernel_rfl) (fun K hK => ?_)
  go_simp
  refine (S114 _).mono ?_
  rintro e w' ⟨rfl, rfl⟩
  go_simp
  refine hK _ _ ?_
  clear hK K
  refine wl_do (by kernel_rfl) (fun K hK => ?_)
  go_simp
  refine hK _ _ ?_
  clear hK K
  by_cases h3 : m.m.rs = 0
  case neg =>
    have Z3 := Lib.hid (show (m.m.rs == 0) = false by simpa using h3)
    have z3 := Z3.out
    clear h3
    iterate 6 (refine wl_do (by kernel_rfl) (fun K hK => ?_); go_simp; refine hK _ _ ?_; clear hK K)
    iterate 8 (refine wl_skip (by kernel_rfl) ?_)
    iterate 2 (refine wl_do (by kernel_rfl) (fun K hK => ?_); go_simp; refine hK _ _ ?_; clear hK K)
    iterate 8 (refine wl_skip (by kernel_rfl) ?_)
    iterate 2 (refine wl_do (by kernel_rfl) (fun K hK => ?_); go_simp; refine hK _ _ ?_; clear hK K)
    iterate 8 (refine wl_skip (by kernel_rfl) ?_)
    iterate 2 (refine wl_do (by kernel_rfl) (fun K hK => ?_); go_simp; refine hK _ _ ?_; clear hK K)
    iterate 8 (refine wl_skip (by kernel_rfl) ?_)
    iterate 2 (refine wl_do (by kernel_rfl) (fun K hK => ?_); go_simp; refine hK _ _ ?_; clear hK K)
    refine wl_nil ?_
    clear S118 S105 S115 S114 S98 S111 S99 S112
    go_wp2_with fail
    go_ret
    exact ⟨congrArg (fun b => Ending.returned (.bool b)) (show false = blankS false false false false true false false false m.m by unfold blankS; rw [Z3.out]; simp), HB.out⟩
  have Z3 := Lib.hid (show (m.m.rs == 0) = true by simpa using h3)
  have z3 := Z3.out
  clear h3
  iterate 7 (refine wl_do (by kernel_rfl) (fun K hK => ?_); go_simp; refine hK _ _ ?_; clear hK K)
  refine wl_do (by kernel_rfl) (fun K hK => ?_)
  go_simp
  refine (S98 _).mono ?_
  rintro e w' ⟨rfl, rfl⟩
  go_simp
  refine hK _ _ ?_
  clear hK K
  refine wl_do (by kernel_rfl) (fun K hK => ?_)
  go_simp
  refine hK _ _ ?_
  clear hK K
  iterate 4 (refine wl_skip (by kernel_rfl) ?_)
  iterate 4 (refine wl_do (by kernel_rfl) (fun K hK => ?_); go_simp; refine hK _ _ ?_; clear hK K)
  refine wl_do (by kernel_rfl) (fun K hK => ?_)
  go_simp
  refine (S111 _).mono ?_
  rintro e w' ⟨rfl, rfl⟩
  go_simp
  refine hK _ _ ?_
  clear hK K
  refine wl_do (by kernel_rfl) (fun K hK => ?_)
  go_simp
  refine hK _ _ ?_
  clear hK K
  by_cases h5 : m.m.vs.length = 0
  case neg =>
    have Z5 := Lib.hid (show (m.m.vs.length == 0) = false by simpa using h5)
    have z5 : ((m.m.vs.length : Int) == 0) = false := by rw [beq_eq_false_iff_ne]; omega
    have y5 := Z5.out
    clear h5
    iterate 7 (refine wl_do (by kernel_rfl) (fun K hK => ?_); go_simp; refine hK _ _ ?_; clear hK K)
    iterate 8 (refine wl_skip (by kernel_rfl) ?_)
    iterate 2 (refine wl_do (by kernel_rfl) (fun K hK => ?_); go_simp; refine hK _ _ ?_; clear hK K)
    iterate 8 (refine wl_skip (by kernel_rfl) ?_)
    iterate 2 (refine wl_do (by kernel_rfl) (fun K hK => ?_); go_simp; refine hK _ _ ?_; clear hK K)
    refine wl_nil ?_
    clear S118 S105 S115 S114 S98 S111 S99 S112
    go_wp2_with fail
    go_ret
    exact ⟨congrArg (fun b => Ending.returned (.bool b)) (show false = blankS false false false false true false false false m.m by unfold blankS; rw [Z5.out]; simp), HB.out⟩
  have Z5 := Lib.hid (show (m.m.vs.length == 0) = true by simpa using h5)
  have z5 : ((m.m.vs.length : Int) == 0) = true := by rw [beq_iff_eq]; omega
  have y5 := Z5.out
  clear h5
  iterate 8 (refine wl_do (by kernel_rfl) (fun K hK => ?_); go_simp; refine hK _ _ ?_; clear hK K)
  refine wl_do (by kernel_rfl) (fun K hK => ?_)
  go_simp
  refine (S99 _).mono ?_
  rintro e w' ⟨rfl, rfl⟩
  go_simp
  refine hK _ _ ?_
  clear hK K
  refine wl_do (by kernel_rfl) (fun K hK => ?_)
  go_simp
  refine hK _ _ ?_
  clear hK K
  by_cases h6 : m.m.cs.length = 0
  case neg =>
    have Z6 := Lib.hid (show (m.m.cs.length == 0) = false by simpa using h6)
    have z6 : ((m.m.cs.length : Int) == 0) = false := by rw [beq_eq_false_iff_ne]; omega
    have y6 := Z6.out
    clear h6
    iterate 7 (refine wl_do (by kernel_rfl) (fun K hK => ?_); go_simp; refine hK _ _ ?_; clear hK K)
    iterate 8 (refine wl_skip (by kernel_rfl) ?_)
    iterate 2 (refine wl_do (by kernel_rfl) (fun K hK => ?_); go_simp; refine hK _ _ ?_; clear hK K)
    refine wl_nil ?_
    clear S118 S105 S115 S114 S98 S111 S99 S112
    go_wp2_with fail
    go_ret
    exact ⟨congrArg (fun b => Ending.returned (.bool b)) (show false = blankS false false false false true false false false m.m by unfold blankS; rw [Z6.out]; simp), HB.out⟩
  have Z6 := Lib.hid (show (m.m.cs.length == 0) = true by simpa using h6)
  have z6 : ((m.m.cs.length : Int) == 0) = true := by rw [beq_iff_eq]; omega
  have y6 := Z6.out
  clear h6
  iterate 8 (refine wl_do (by kernel_rfl) (fun K hK => ?_); go_simp; refine hK _ _ ?_; clear hK K)
  refine wl_do (by kernel_rfl) (fun K hK => ?_)
  go_simp
  refine (S112 _).mono ?_
  rintro e w' ⟨rfl, rfl⟩
  go_simp
  refine hK _ _ ?_
  clear hK K
  refine wl_do (by kernel_rfl) (fun K hK => ?_)
  go_simp
  refine hK _ _ ?_
  clear hK K
  by_cases h7 : m.m.ps.length = 0
  case neg =>
    have Z7 := Lib.hid (show (m.m.ps.length == 0) = false by simpa using h7)
    have z7 : ((m.m.ps.length : Int) == 0) = false := by rw [beq_eq_false_iff_ne]; omega
    have y7 := Z7.out
    clear h7
    iterate 7 (refine wl_do (by kernel_rfl) (fun K hK => ?_); go_simp; refine hK _ _ ?_; clear hK K)
    refine wl_nil ?_
    clear S118 S105 S115 S114 S98 S111 S99 S112
    go_wp2_with fail
    go_ret
    exact ⟨congrArg (fun b => Ending.returned (.bool b)) (show false = blankS false false false false true false false false m.m by unfold blankS; rw [Z7.out]; simp), HB.out⟩
  have Z7 := Lib.hid (show (m.m.ps.length == 0) = true by simpa using h7)
  have z7 : ((m.m.ps.length : Int) == 0) = true := by rw [beq_iff_eq]; omega
  have y7 := Z7.out
  clear h7
  iterate 7 (refine wl_do (by kernel_rfl) (fun K hK => ?_); go_simp; refine hK _ _ ?_; clear hK K)
  refine wl_nil ?_
  clear S118 S105 S115 S114 S98 S111 S99 S112
  go_wp2_with fail
  go_ret
  exact ⟨congrArg (fun b => Ending.returned (.bool b)) (show true = blankS false false false false true false false false m.m by unfold blankS; rw [Z0.out, Z1.out, Z2.out, Z3.out, Z5.out, Z6.out, Z7.out]; rfl), HB.out⟩
end Go.Proofs.YtbegjadohamkkaaGreat
