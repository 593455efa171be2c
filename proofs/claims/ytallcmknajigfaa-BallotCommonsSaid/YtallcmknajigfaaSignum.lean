/- The contract of code.Signed, and of the document's zig and zag. -/
import Derived.Test.YtallcmknajigfaaNum
import Derived.Test.YtallcmknajigfaaSigns
import Derived.Lib.Hide
namespace Go.Proofs.Ytallcmknajigfaa
open Go.RowKit

theorem zigS_in {n : Int} (h1 : -549755813888 ≤ n) (h2 : n < 549755813888) : 0 ≤ zigS n ∧ zigS n < 1099511627776 := by
  unfold zigS; rw [if_pos ⟨h1, h2⟩]; split <;> omega
theorem zagS_zig {n : Int} (h1 : -549755813888 ≤ n) (h2 : n < 549755813888) : zagS (zigS n) = n := by
  unfold zigS; rw [if_pos ⟨h1, h2⟩]; unfold zagS
  by_cases h : n < 0
  · rw [if_pos h, if_neg (by omega), if_pos (by omega)]; omega
  · rw [if_neg h, if_neg (by omega), if_neg (by omega)]; omega
theorem zigS_zag {n : Int} (h1 : 0 ≤ n) (h2 : n < 1099511627776) : zigS (zagS n) = n := by
  unfold zagS; rw [if_neg (by omega)]; unfold zigS
  by_cases h : n % 2 = 1
  · rw [if_pos h, if_pos (by omega), if_pos (by omega)]; omega
  · rw [if_neg h, if_pos (by omega), if_neg (by omega)]; omega

set_option maxHeartbeats 400000 in
theorem signum_row (n : Int) (h1 : -549755813888 ≤ n) (h2 : n < 549755813888) (w : World) :
    Calls Try.prog 116 #[.int .i64 n] w (NumPost (zigS n).toNat w) := by
  have e1 : inS n = true := inS_true h1 h2
  obtain ⟨m, hm⟩ : ∃ m : Nat, zigS n = m := ⟨(zigS n).toNat, by have := zigS_in h1 h2; omega⟩
  have hlt : m < 1099511627776 := by have := zigS_in h1 h2; omega
  have hz := zig_any n
  rw [hm] at hz ⊢
  rw [show ((m : Int)).toNat = m from rfl]
  have HZ := Lib.hid hz
  clear hz hm h1 h2
  go_enter Try.func116, Try.ntmps116
  go_wp2_with (first | (go_at_call 123; refine (signed_any _ _).mono ?_; rintro e w' ⟨rfl, rfl⟩) | (go_at_call 124; refine (HZ.out _).mono ?_; rintro e w' ⟨rfl, rfl⟩) | (go_at_call 115; refine (number_row m hlt _).mono ?_; rintro e w' ⟨g, c, rfl, ho, hb⟩))
  go_ret2
  exact ⟨_, _, rfl, ho, hb⟩

set_option maxHeartbeats 400000 in
theorem signum_none (n : Int) (h : n < -549755813888 ∨ 549755813888 ≤ n) (w : World) :
    Calls Try.prog 116 #[.int .i64 n] w fun e w' => e = .returned (.tuple #[.slice none 0 0, .bool false]) ∧ w = w' := by
  have e1 : inS n = false := by rcases h with h | h; exact inS_low h; exact inS_high h
  clear h
  go_enter Try.func116, Try.ntmps116
  go_wp2_with (go_at_call 123; refine (signed_any _ _).mono ?_; rintro e w' ⟨rfl, rfl⟩)
  go_ret2
  exact ⟨rfl, rfl⟩
end Go.Proofs.Ytallcmknajigfaa
