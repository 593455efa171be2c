/- The walk of CodeCuts: it returns true for any two ints. -/
import Derived.Test.YtfjgcpeaghlcgaaNumbersWalk
namespace Go.Proofs.Ytfjgcpeaghlcgaa
open Go.RowKit

theorem enc_cut {n k : Nat} (hn : n < 1099511627776) (hk : k < (enc n).length) : takeS ((enc n).take k) 0 = (0, 0, false) := by
  rcases takeS_cases ((enc n).take k) 0 (fun z hz => enc_u8 n z (List.mem_of_mem_take hz)) with h | ⟨m, p, q, hp, h1, h2, h3, h4, h5⟩
  · exact h
  · exfalso
    obtain rfl : p = 0 := by omega
    rw [List.drop_zero, List.take_take] at h5
    have h6 : m = n := enc_begins h4 hn (h5 ▸ List.take_prefix _ _)
    subst h6
    have h7 := congrArg List.length h5
    simp at h7
    omega
theorem takeS_far {l : List Int} {i : Int} (h : i < 0 ∨ (l.length : Int) ≤ i) : takeS l i = (0, 0, false) := by
  unfold takeS
  by_cases h0 : i < 0
  · rw [if_pos h0]
  · rw [if_neg h0, List.drop_eq_nil_of_le (by omega), res_nil]

set_option maxHeartbeats 400000 in
theorem codeCuts_out (n i : Int) (w : World) (hn : n < 0 ∨ 1099511627776 ≤ n) :
    Calls Try.prog 11 #[.int .i64 n, .int .i64 i] w fun e w' => e = .returned (.bool true) ∧ Below w.heap.size w w' := by
  have HN := Lib.hid hn
  clear hn
  go_enter Try.func11, Try.ntmps11
  go_wp2_with fail
  refine (number_none n HN.out _).mono ?_
  rintro e w1 ⟨rfl, rfl⟩
  go_wp2_with fail
  refine (wakes_any _).mono ?_
  rintro e w2 ⟨rfl, hb2⟩
  go_wp2_with fail
  go_ret
  exact ⟨rfl, hb2⟩

set_option maxHeartbeats 1000000 in
theorem codeCuts_in (n : Nat) (i : Int) (w : World) (hn : n < 1099511627776) (hi0 : -9223372036854775808 ≤ i) (hi1 : i ≤ 9223372036854775807) :
    Calls Try.prog 11 #[.int .i64 n, .int .i64 i] w fun e w' => e = .returned (.bool true) ∧ Below w.heap.size w w' := by
  have hel := enc_len 5 n (by omega)
  have HC := Lib.hid (fun k => enc_cut (k := k) hn)
  have HZ := Lib.hid (enc_u8 n)
  go_enter Try.func11, Try.ntmps11
  go_wp2_with fail
  refine (number_row n hn _).mono ?_
  rintro e w1 ⟨g, c, rfl, ho, hb⟩
  obtain ⟨hc1, hc2⟩ := own_caps ho
  unfold maxLen at hc2
  have HO := Lib.hid (Has.own ho)
  clear ho
  go_wp2_with fail
  go_loop [7] (fun x => ∃ k : Nat, x = .int .i64 k ∧ k ≤ (enc n).length) (fun x => (enc n).length - (intOf x).toNat)
  case atStart => exact ⟨0, rfl, Nat.zero_le _⟩
  case round =>
    obtain ⟨k, rfl, hk⟩ := hrel
    by_cases hlt : k < (enc n).length
    · have HL := Lib.hid (show ((enc n).take k).length = k by simp; omega)
      go_wp2_with fail
      refine (take_is (HC.out k hlt) HL.out (by omega) (by omega) (fun z hz => HZ.out z (List.mem_of_mem_take hz)) _ (HO.out.take k)).mono ?_
      rintro e w2 ⟨rfl, rfl⟩
      go_wp2
      go_round
      case rel => exact ⟨k + 1, by go_num, by omega⟩
      case measure => simp [intOf]; omega
    · have hm0 := Int.emod_nonneg i (show (50 : Int) ≠ 0 by omega)
      have hm1 := Int.emod_lt_of_pos i (show (0 : Int) < 50 by omega)
      obtain ⟨j, hj⟩ : ∃ j, i % 50 = j := ⟨_, rfl⟩
      have HW := Lib.hid (fun w => within_any i 50 (by omega) (by omega) hi0 hi1 w)
      rw [hj] at HW hm0 hm1
      clear hj
      go_wp2_with fail
      refine (HW.out _).mono ?_
      rintro e w2 ⟨rfl, rfl⟩
      go_wp2_with fail
      refine (take_is (takeS_far (by omega)) rfl (by omega) (by omega) HZ.out _ HO.out).mono ?_
      rintro e w2 ⟨rfl, rfl⟩
      go_wp2_with fail
      refine (take_is (takeS_far (by omega)) rfl (by omega) (by omega) HZ.out _ HO.out).mono ?_
      rintro e w2 ⟨rfl, rfl⟩
      go_wp2_with fail
      refine (wakes_any _).mono ?_
      rintro e w2 ⟨rfl, hb2⟩
      go_wp2_with fail
      go_ret
      exact ⟨rfl, hb.trans (hb2.mono hb.size)⟩
theorem codeCuts_walk (n i : Int) (w : World) (_ : (Lit.int .i64 n).wf = true) (w1 : (Lit.int .i64 i).wf = true) :
    Calls Try.prog 11 #[.int .i64 n, .int .i64 i] w fun e w' => e = .returned (.bool true) ∧ Below w.heap.size w w' := by
  by_cases hn : 0 ≤ n ∧ n < 1099511627776
  · obtain ⟨m, rfl⟩ := Int.eq_ofNat_of_zero_le hn.1
    exact codeCuts_in m i w (by omega) (wf_i64 w1).1 (wf_i64 w1).2
  · exact codeCuts_out n i w (by omega)
end Go.Proofs.Ytfjgcpeaghlcgaa
