/- The walk of CodeUnlike: it returns true for any two ints. -/
import Derived.Test.YtfjgcpeaghlcgaaWakes
import Derived.Deep.RegionWith
namespace Go.Proofs.Ytfjgcpeaghlcgaa
open Go.RowKit

set_option maxHeartbeats 400000 in
theorem codeUnlike_far (m n : Nat) (w : World) (hm : m < 1099511627776) (hn : n < 1099511627776) (hne : m ≠ n) :
    Calls Try.prog 8 #[.int .i64 m, .int .i64 n] w fun e w' => e = .returned (.bool true) ∧ Below w.heap.size w w' := by
  have hne' : ((m : Int) == (n : Int)) = false := by simp; omega
  have hl1 := enc_len 5 m (by omega)
  have hl2 := enc_len 5 n (by omega)
  have HU := Lib.hid (enc_unlike hm hn hne)
  clear hne
  by_cases hle : (enc n).length < (enc m).length
  · have HS := Lib.hid (show sameB ((enc m).take (enc n).length) (enc n) = false by
      have := HU.out
      rw [Nat.min_eq_right (by omega), List.take_length (l := enc n)] at this
      unfold sameB; rw [decide_eq_false_iff_not]; exact this)
    have HT := Lib.hid (show ((enc m).take (enc n).length).length = (enc n).length by simp; omega)
    go_enter Try.func8, Try.ntmps8
    go_wp2_with fail
    refine (number_row m hm _).mono ?_
    rintro e w1 ⟨g1, c1, rfl, ho1, hb1⟩
    obtain ⟨hc1, hc2⟩ := own_caps ho1
    have HO1 := Lib.hid (Has.own ho1)
    clear ho1
    go_wp2_with fail
    refine (number_row n hn _).mono ?_
    rintro e w2 ⟨g2, c2, rfl, ho2, hb2⟩
    obtain ⟨hc3, hc4⟩ := own_caps ho2
    have HO2 := Lib.hid (Has.own ho2)
    have HO3 := Lib.hid ((HO1.out.below hb2 (Nat.le_refl _)).more hb2.size)
    clear ho2
    go_wp2_with fail
    go_region_with (first | (go_at_call 21; refine (same_is HT.out rfl (by omega) HS.out _ (by exact (HO3.out.take _).drew) (by exact HO2.out.drew)).mono ?_; rintro e w3 ⟨rfl, nq, rfl⟩) | (go_at_call 14; refine (wakes_any _).mono ?_; rintro e w4 ⟨rfl, hb4⟩))
    go_wp2
    go_ret
    exact ⟨rfl, (hb1.trans (hb2.mono hb1.size)).trans ((below_drewN (Below.refl w.heap.size w2) (1 + nq)).trans (hb4.mono (Nat.le_trans hb1.size hb2.size)))⟩
  · have HS := Lib.hid (show sameB (enc m) ((enc n).take (enc m).length) = false by
      have := HU.out
      rw [Nat.min_eq_left (by omega), List.take_length (l := enc m)] at this
      unfold sameB; rw [decide_eq_false_iff_not]; exact this)
    have HT := Lib.hid (show ((enc n).take (enc m).length).length = (enc m).length by simp; omega)
    go_enter Try.func8, Try.ntmps8
    go_wp2_with fail
    refine (number_row m hm _).mono ?_
    rintro e w1 ⟨g1, c1, rfl, ho1, hb1⟩
    obtain ⟨hc1, hc2⟩ := own_caps ho1
    have HO1 := Lib.hid (Has.own ho1)
    clear ho1
    go_wp2_with fail
    refine (number_row n hn _).mono ?_
    rintro e w2 ⟨g2, c2, rfl, ho2, hb2⟩
    obtain ⟨hc3, hc4⟩ := own_caps ho2
    have HO2 := Lib.hid (Has.own ho2)
    have HO3 := Lib.hid ((HO1.out.below hb2 (Nat.le_refl _)).more hb2.size)
    clear ho2
    go_wp2_with fail
    go_region_with (first | (go_at_call 21; refine (same_is rfl HT.out (by omega) HS.out _ (by exact HO3.out.drew) (by exact (HO2.out.take _).drew)).mono ?_; rintro e w3 ⟨rfl, nq, rfl⟩) | (go_at_call 14; refine (wakes_any _).mono ?_; rintro e w4 ⟨rfl, hb4⟩))
    go_wp2
    go_ret
    exact ⟨rfl, (hb1.trans (hb2.mono hb1.size)).trans ((below_drewN (Below.refl w.heap.size w2) (1 + nq)).trans (hb4.mono (Nat.le_trans hb1.size hb2.size)))⟩

set_option maxHeartbeats 400000 in
theorem codeUnlike_one (m : Nat) (w : World) (hm : m < 1099511627776) :
    Calls Try.prog 8 #[.int .i64 m, .int .i64 m] w fun e w' => e = .returned (.bool true) ∧ Below w.heap.size w w' := by
  go_enter Try.func8, Try.ntmps8
  go_wp2_with fail
  refine (number_row m hm _).mono ?_
  rintro e w1 ⟨g1, c1, rfl, ho1, hb1⟩
  clear ho1
  go_wp2_with fail
  refine (number_row m hm _).mono ?_
  rintro e w2 ⟨g2, c2, rfl, ho2, hb2⟩
  clear ho2
  go_wp2_with fail
  refine (wakes_any _).mono ?_
  rintro e w3 ⟨rfl, hb3⟩
  go_wp2_with fail
  go_ret
  exact ⟨rfl, (hb1.trans (hb2.mono hb1.size)).trans (hb3.mono (Nat.le_trans hb1.size hb2.size))⟩

set_option maxHeartbeats 400000 in
theorem codeUnlike_second (m : Nat) (n : Int) (w : World) (hm : m < 1099511627776) (hn : n < 0 ∨ 1099511627776 ≤ n) :
    Calls Try.prog 8 #[.int .i64 m, .int .i64 n] w fun e w' => e = .returned (.bool true) ∧ Below w.heap.size w w' := by
  have HN := Lib.hid hn
  clear hn
  go_enter Try.func8, Try.ntmps8
  go_wp2_with fail
  refine (number_row m hm _).mono ?_
  rintro e w1 ⟨g1, c1, rfl, ho1, hb1⟩
  clear ho1
  go_wp2_with fail
  refine (number_none n HN.out _).mono ?_
  rintro e w2 ⟨rfl, rfl⟩
  go_wp2_with fail
  refine (wakes_any _).mono ?_
  rintro e w3 ⟨rfl, hb3⟩
  go_wp2_with fail
  go_ret
  exact ⟨rfl, hb1.trans (hb3.mono hb1.size)⟩

set_option maxHeartbeats 400000 in
theorem codeUnlike_first (m n : Int) (w : World) (hm : m < 0 ∨ 1099511627776 ≤ m) :
    Calls Try.prog 8 #[.int .i64 m, .int .i64 n] w fun e w' => e = .returned (.bool true) ∧ Below w.heap.size w w' := by
  have HN := Lib.hid hm
  clear hm
  by_cases hn : 0 ≤ n ∧ n < 1099511627776
  · obtain ⟨k, rfl⟩ := Int.eq_ofNat_of_zero_le hn.1
    have hk : k < 1099511627776 := by omega
    clear hn
    go_enter Try.func8, Try.ntmps8
    go_wp2_with fail
    refine (number_none m HN.out _).mono ?_
    rintro e w1 ⟨rfl, rfl⟩
    go_wp2_with fail
    refine (number_row k hk _).mono ?_
    rintro e w1 ⟨g1, c1, rfl, ho1, hb1⟩
    clear ho1
    go_wp2_with fail
    refine (wakes_any _).mono ?_
    rintro e w3 ⟨rfl, hb3⟩
    go_wp2_with fail
    go_ret
    exact ⟨rfl, hb1.trans (hb3.mono hb1.size)⟩
  · have HK := Lib.hid (show n < 0 ∨ 1099511627776 ≤ n by omega)
    clear hn
    go_enter Try.func8, Try.ntmps8
    go_wp2_with fail
    refine (number_none m HN.out _).mono ?_
    rintro e w1 ⟨rfl, rfl⟩
    go_wp2_with fail
    refine (number_none n HK.out _).mono ?_
    rintro e w1 ⟨rfl, rfl⟩
    go_wp2_with fail
    refine (wakes_any _).mono ?_
    rintro e w3 ⟨rfl, hb3⟩
    go_wp2_with fail
    go_ret
    exact ⟨rfl, hb3⟩
theorem codeUnlike_walk (m n : Int) (w : World) (_ : (Lit.int .i64 m).wf = true) (_ : (Lit.int .i64 n).wf = true) :
    Calls Try.prog 8 #[.int .i64 m, .int .i64 n] w fun e w' => e = .returned (.bool true) ∧ Below w.heap.size w w' := by
  by_cases hm : 0 ≤ m ∧ m < 1099511627776
  · obtain ⟨k, rfl⟩ := Int.eq_ofNat_of_zero_le hm.1
    by_cases hn : 0 ≤ n ∧ n < 1099511627776
    · obtain ⟨j, rfl⟩ := Int.eq_ofNat_of_zero_le hn.1
      by_cases he : k = j
      · subst he; exact codeUnlike_one k w (by omega)
      · exact codeUnlike_far k j w (by omega) (by omega) he
    · exact codeUnlike_second k n w (by omega) (by omega)
  · exact codeUnlike_first m n w (by omega)
end Go.Proofs.Ytfjgcpeaghlcgaa
