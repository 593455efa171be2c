/- The contracts of code.signed, code.Zig, code.Zag and the document's own zig and zag: what each returns, for every int; the world is unchanged. -/
import Derived.Test.YtdopgdaobpcbjaaRows
import Derived.WalkKit
import Derived.WalkSpells
import Derived.WalkLawsBesides
namespace Go.Proofs.Ytdopgdaobpcbjaa
open Go.RowKit

def inS (n : Int) : Bool := decide (-549755813888 ≤ n ∧ n < 549755813888)
def zigS (n : Int) : Int := if -549755813888 ≤ n ∧ n < 549755813888 then (if n < 0 then -2 * n - 1 else 2 * n) else 0
def zagS (n : Int) : Int := if n < 0 ∨ 1099511627776 ≤ n then 0 else if n % 2 = 1 then -((n + 1) / 2) else n / 2
theorem inS_true {n : Int} (h1 : -549755813888 ≤ n) (h2 : n < 549755813888) : inS n = true := by simp [inS, h1, h2]
theorem inS_low {n : Int} (h1 : n < -549755813888) : inS n = false := by simp [inS]; omega
theorem inS_high {n : Int} (h1 : 549755813888 ≤ n) : inS n = false := by simp [inS]; omega

set_option maxHeartbeats 400000 in
theorem signed_any (n : Int) (w : World) :
    Calls Try.prog 87 #[.int .i64 n] w fun e w' => e = .returned (.bool (inS n)) ∧ w = w' := by
  by_cases h1 : -549755813888 ≤ n
  · by_cases h2 : n < 549755813888
    · rw [inS_true h1 h2]
      go_enter Try.func87, Try.ntmps87
      go_wp2
      go_ret
      exact ⟨rfl, rfl⟩
    · rw [inS_high (by omega)]
      have h2' : 549755813888 ≤ n := by omega
      go_enter Try.func87, Try.ntmps87
      go_wp2
      go_ret
      exact ⟨by simp, rfl⟩
  · rw [inS_low (by omega)]
    have h1' : n < -549755813888 := by omega
    go_enter Try.func87, Try.ntmps87
    go_wp2
    go_ret
    exact ⟨by simp, rfl⟩

set_option maxHeartbeats 400000 in
theorem zig_any (n : Int) (w : World) :
    Calls Try.prog 88 #[.int .i64 n] w fun e w' => e = .returned (.int .i64 (zigS n)) ∧ w = w' := by
  by_cases h : -549755813888 ≤ n ∧ n < 549755813888
  · have e1 : inS n = true := inS_true h.1 h.2
    obtain ⟨h1, h2⟩ := h
    by_cases h3 : n < 0
    · have e2 : zigS n = -2 * n - 1 := by simp [zigS, h1, h2, h3]
      rw [e2]
      go_enter Try.func88, Try.ntmps88
      go_wp2_with (go_at_call 87; refine (signed_any _ _).mono ?_; rintro e w' ⟨rfl, rfl⟩)
      go_ret
      exact ⟨rfl, rfl⟩
    · have e2 : zigS n = 2 * n := by simp [zigS, h1, h2, h3]
      rw [e2]
      go_enter Try.func88, Try.ntmps88
      go_wp2_with (go_at_call 87; refine (signed_any _ _).mono ?_; rintro e w' ⟨rfl, rfl⟩)
      go_ret
      exact ⟨rfl, rfl⟩
  · have e1 : inS n = false := by simp only [inS, h, decide_false]
    have e2 : zigS n = 0 := by simp only [zigS, if_neg h]
    clear h
    rw [e2]
    go_enter Try.func88, Try.ntmps88
    go_wp2_with (go_at_call 87; refine (signed_any _ _).mono ?_; rintro e w' ⟨rfl, rfl⟩)
    go_ret
    exact ⟨rfl, rfl⟩

end Go.Proofs.Ytdopgdaobpcbjaa
