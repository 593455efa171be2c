/- The contract of keep.Within. -/
import Derived.Test.YtcebnmhkbhhfiaaWords
import Derived.Lib.Hide
namespace Go.Proofs.Ytcebnmhkbhhfiaa
open Go.RowKit

/-- keep.Within's rest. -/
theorem tmod_cases {v n : Int} (hn : 1 ≤ n) (hv : v < 0) : -n < v.tmod n ∧ v.tmod n ≤ 0 ∧ v % n = if v.tmod n < 0 then v.tmod n + n else v.tmod n := by
  have h1 : v.tmod n = -((-v) % n) := by
    rw [← Int.neg_neg v, Int.neg_tmod, Int.neg_neg, Int.tmod_eq_emod_of_nonneg (by omega)]
  have h2 := Int.emod_nonneg (-v) (by omega : n ≠ 0)
  have h3 := Int.emod_lt_of_pos (-v) (by omega : 0 < n)
  refine ⟨by omega, by omega, ?_⟩
  have h4 : v = n * (-((-v) / n)) + v.tmod n := by
    have := Int.mul_ediv_add_emod (-v) n
    rw [h1, Int.mul_neg]; omega
  split
  · rename_i h5
    have h6 : v % n = (v.tmod n + n + n * (-((-v) / n) - 1)) % n := by
      congr 1
      rw [Int.mul_sub]; omega
    rw [h6, Int.add_mul_emod_self_left, Int.emod_eq_of_lt (by omega) (by omega)]
  · have h6 : v % n = (v.tmod n + n * (-((-v) / n))) % n := by
      congr 1
      omega
    rw [h6, Int.add_mul_emod_self_left, Int.emod_eq_of_lt (by omega) (by omega)]

set_option maxHeartbeats 400000 in
theorem within_any (v n : Int) (h0 : 1 ≤ n) (h1 : n ≤ 4611686018427387904) (hv : -9223372036854775808 ≤ v) (hv' : v ≤ 9223372036854775807) (w : World) :
    Calls Try.prog 16 #[.int .i64 v, .int .i64 n] w fun e w' => e = .returned (.int .i64 (v % n)) ∧ w = w' := by
  by_cases hs : 0 ≤ v
  · have hm := Int.emod_nonneg v (by omega : n ≠ 0)
    go_enter Try.func16, Try.ntmps16
    go_wp2
    go_ret
    exact ⟨rfl, rfl⟩
  · obtain ⟨hm0, hm1, hm2⟩ := tmod_cases h0 (by omega : v < 0)
    have HM := Lib.hid hm2
    clear hm2
    by_cases hc : v.tmod n < 0
    · have HE := Lib.hid (show v % n = v.tmod n + n by rw [HM.out, if_pos hc])
      go_enter Try.func16, Try.ntmps16
      go_wp2
      go_ret
      exact ⟨by rw [HE.out]; rfl, rfl⟩
    · have HE := Lib.hid (show v % n = v.tmod n by rw [HM.out, if_neg hc])
      go_enter Try.func16, Try.ntmps16
      go_wp2
      go_ret
      exact ⟨by rw [HE.out]; rfl, rfl⟩
end Go.Proofs.Ytcebnmhkbhhfiaa
