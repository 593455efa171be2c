/- The walk of BallotNext: it returns true for any three ints. -/
import Derived.Test.YtallcmknajigfaaSizesWalk
namespace Go.Proofs.Ytallcmknajigfaa
open Go.RowKit

theorem next_mod (a n : Int) : (a % n + 1) % n = (a + 1) % n := by rw [Int.emod_add_emod]
theorem mod_nat (v n : Int) (h : 1 ≤ n) : ∃ k : Nat, v % n = k ∧ (k : Int) < n :=
  ⟨(v % n).toNat, by have := Int.emod_nonneg v (by omega : n ≠ 0); omega, by have := Int.emod_nonneg v (by omega : n ≠ 0); have := Int.emod_lt_of_pos v (by omega : 0 < n); omega⟩
set_option maxHeartbeats 2000000 in
theorem ballotNext_walk (f v i : Int) (w : World) (w0 : (Lit.int .i64 f).wf = true) (w1 : (Lit.int .i64 v).wf = true) (w2 : (Lit.int .i64 i).wf = true) :
    Calls Try.prog 3 #[.int .i64 f, .int .i64 v, .int .i64 i] w fun e w' => e = .returned (.bool true) ∧ Below w.heap.size w w' := by
  obtain ⟨q, hq, hq4⟩ := mod_four f
  obtain ⟨a, ha, ha4⟩ := mod_nat v 12 (by omega)
  obtain ⟨b, hb, hb4⟩ := mod_nat i (1 + (q : Int) + 1) (by omega)
  have HW1 := Lib.hid (fun w => within_any f 4 (by omega) (by omega) (wf_i64 w0).1 (wf_i64 w0).2 w)
  have HW2 := Lib.hid (fun w => within_any v 12 (by omega) (by omega) (wf_i64 w1).1 (wf_i64 w1).2 w)
  have HW3 := Lib.hid (fun w => within_any i (1 + (q : Int) + 1) (by omega) (by omega) (wf_i64 w2).1 (wf_i64 w2).2 w)
  rw [hq] at HW1
  rw [ha] at HW2
  rw [hb] at HW3
  have hq3 : (q : Int) ≤ 3 := by omega
  obtain ⟨F, hF⟩ : ∃ F : Int, 1 + (q : Int) = F := ⟨_, rfl⟩
  have hF1 : 1 ≤ F := by omega
  have hF2 : F ≤ 4 := by omega
  rw [hF] at HW3 hb4
  obtain ⟨p, hp⟩ : ∃ p, ((a : Int) + b) % (3 * F + 1) = p := ⟨_, rfl⟩
  have hp0 : 0 ≤ p := by rw [← hp]; exact Int.emod_nonneg _ (by omega)
  have hp1 : p < 3 * F + 1 := by rw [← hp]; exact Int.emod_lt_of_pos _ (by omega)
  have hpn : ((a : Int) + 1 + b) % (3 * F + 1) = (p + 1) % (3 * F + 1) := by rw [← hp, next_mod]; congr 1; omega
  have G0 := Lib.hid (bnodes_any F)
  rw [nodesS_in hF1 hF2] at G0
  have G1 := Lib.hid (bprimary_any F a b)
  rw [primaryS_in hF1 hF2 (by omega) (by omega) (by omega) (by omega), hp] at G1
  have G2 := Lib.hid (bprimary_any F (a + 1) b)
  rw [primaryS_in hF1 hF2 (by omega) (by omega) (by omega) (by omega), hpn] at G2
  have G3 := Lib.hid (bprimary_any F 0 b)
  rw [primaryS_in hF1 hF2 (by omega) (by omega) (by omega) (by omega), show ((0 : Int) + b) % (3 * F + 1) = b from by rw [Int.zero_add]; exact Int.emod_eq_of_lt (by omega) (by omega)] at G3
  have G4 := Lib.hid (bprimary_any F a (F + 1))
  rw [primaryS_out (by omega)] at G4
  have G5 := Lib.hid (bprimary_any F 13 b)
  rw [primaryS_out (by omega)] at G5
  have G6 := Lib.hid (bprimary_any 0 a 0)
  rw [primaryS_out (by omega)] at G6
  clear hq ha hb hp hpn w0 w1 w2
  go_enter Try.func3, Try.ntmps3
  go_wp2_with fail
  refine (HW1.out _).mono ?_
  rintro e w' ⟨rfl, rfl⟩
  go_wp2_with fail
  refine (HW2.out _).mono ?_
  rintro e w' ⟨rfl, rfl⟩
  go_wp2_with fail
  refine (HW3.out _).mono ?_
  rintro e w' ⟨rfl, rfl⟩
  go_wp2_with fail
  refine (G0.out _).mono ?_
  rintro e w' ⟨rfl, rfl⟩
  go_wp2_with fail
  refine (G1.out _).mono ?_
  rintro e w' ⟨rfl, rfl⟩
  go_wp2_with fail
  refine (G2.out _).mono ?_
  rintro e w' ⟨rfl, rfl⟩
  go_wp2_with fail
  refine (G3.out _).mono ?_
  rintro e w' ⟨rfl, rfl⟩
  go_wp2_with fail
  refine (G4.out _).mono ?_
  rintro e w' ⟨rfl, rfl⟩
  go_wp2_with fail
  refine (G5.out _).mono ?_
  rintro e w' ⟨rfl, rfl⟩
  go_wp2_with fail
  refine (G6.out _).mono ?_
  rintro e w' ⟨rfl, rfl⟩
  go_wp2_with fail
  refine (wakesB_any _).mono ?_
  rintro e w' ⟨rfl, rfl⟩
  go_wp2_with fail
  go_ret
  exact ⟨rfl, Below.refl _ _⟩
end Go.Proofs.Ytallcmknajigfaa
