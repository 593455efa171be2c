/- The walk of CodeLengths: it returns true for every int. -/
import Derived.Test.YtfjgcpeaghlcgaaNumbersWalk
namespace Go.Proofs.Ytfjgcpeaghlcgaa
open Go.RowKit

/-- All groups but the last have the mark. -/
theorem enc_high (f : Nat) : ∀ m i : Nat, m ≤ f → ∀ z r, (enc m).drop i = z :: r → (128 ≤ z ↔ i + 1 < (enc m).length) := by
  induction f with
  | zero =>
    intro m i hm z r h
    obtain rfl : m = 0 := by omega
    rw [enc_small (by omega)] at h ⊢
    cases i with
    | zero => injection h with h _; subst h; simp
    | succ i => simp at h
  | succ f ih =>
    intro m i hm z r h
    by_cases h1 : m < 128
    · rw [enc_small h1] at h ⊢
      cases i with
      | zero => injection h with h _; subst h; simp; omega
      | succ i => simp at h
    · rw [enc_big (by omega)] at h ⊢
      cases i with
      | zero =>
        injection h with h _
        have := enc_pos (m / 128)
        subst h; simp; omega
      | succ i =>
        have := ih (m / 128) i (by omega) z r (by simpa using h)
        rw [this]; simp

set_option maxHeartbeats 400000 in
theorem codeLengths_out (n : Int) (w : World) (hn : n < 0 ∨ 1099511627776 ≤ n) :
    Calls Try.prog 10 #[.int .i64 n] w fun e w' => e = .returned (.bool true) ∧ Below w.heap.size w w' := by
  have HN := Lib.hid hn
  rcases hn with hn | hn
  all_goals
    go_enter Try.func10, Try.ntmps10
    go_wp2_with fail
    refine (number_none n HN.out _).mono ?_
    rintro e w1 ⟨rfl, rfl⟩
    go_wp2_with fail
    refine (wakes_any _).mono ?_
    rintro e w2 ⟨rfl, hb2⟩
    go_wp2_with fail
    go_ret
    exact ⟨rfl, hb2⟩

set_option maxHeartbeats 1000000 in
set_option maxRecDepth 100000 in
theorem codeLengths_in (n : Nat) (w : World) (hn : n < 1099511627776) :
    Calls Try.prog 10 #[.int .i64 n] w fun e w' => e = .returned (.bool true) ∧ Below w.heap.size w w' := by
  have hel := enc_len 5 n (by omega)
  have HH := Lib.hid (enc_high n n)
  go_enter Try.func10, Try.ntmps10
  go_wp2_with fail
  refine (number_row n hn _).mono ?_
  rintro e w1 ⟨g, c, rfl, ho, hb⟩
  have HO := Lib.hid (Has.own ho)
  clear ho
  go_wp2_with fail
  go_loop [5, 6] (fun x y => ∃ (j k : Nat), x = .int .i64 j ∧ y = .int .i64 k ∧ k < 1099511627776 ∧ 1 ≤ j ∧ j ≤ 6 ∧ Hid (j + (enc k).length = (enc n).length + 1)) (fun _ y => (intOf y).toNat)
  case atStart => exact ⟨1, n, rfl, rfl, hn, by omega, by omega, (show 1 + (enc n).length = (enc n).length + 1 by omega)⟩
  case round =>
    obtain ⟨j, k, rfl, rfl, hk, hj0, hj, HJ⟩ := hrel
    by_cases hlt : 128 ≤ k
    · have hp := enc_pos (k / 128)
      have e1 : j + 1 + (enc (k / 128)).length = (enc n).length + 1 := by
        have h := HJ.out
        rw [enc_big hlt] at h
        simp at h; omega
      have hj2 : j + 1 ≤ 6 := by omega
      have HE := Lib.hid e1
      clear e1
      go_wp2
      go_round
      case rel => exact ⟨j + 1, k / 128, by go_num, by go_num, by omega, by omega, hj2, HE.out⟩
      case measure => simp [intOf]; omega
    · have he : j = (enc n).length := by
        have h := HJ.out
        rw [enc_small (by omega)] at h
        simp at h; omega
      subst he
      clear HJ
      go_wp2
      go_loop [38] (fun x => ∃ i : Nat, x = .int .i64 i ∧ i ≤ (enc n).length) (fun x => (enc n).length - (intOf x).toNat)
      case atStart => exact ⟨0, rfl, Nat.zero_le _⟩
      case round =>
        obtain ⟨i, rfl, hi⟩ := hrel
        by_cases hi2 : i < (enc n).length
        · obtain ⟨ad, z, hA, _, hc, hd, hm⟩ := HO.out.byte hi2
          obtain rfl : (⟨g, 0, none⟩ : Addr) = ad := by injection hA
          rw [addr_at] at hc
          have hz := HH.out i (Nat.le_refl _) z _ hd
          by_cases h1 : i + 1 < (enc n).length
          · have hz1 : 128 ≤ z := hz.2 h1
            have hd1 : decide ((i : Int) < ((enc n).length : Int) - 1) = true := by rw [decide_eq_true_iff]; omega
            clear hz hd hA
            go_wp2
            go_round
            case rel => exact ⟨i + 1, by go_num, by omega⟩
            case measure => simp [intOf]; omega
          · have hz1 : z < 128 := by omega
            have hd1 : decide ((i : Int) < ((enc n).length : Int) - 1) = false := by rw [decide_eq_false_iff_not]; omega
            have hd2 : decide (128 ≤ z) = false := by rw [decide_eq_false_iff_not]; omega
            clear hz hd hA
            go_wp2
            go_round
            case rel => exact ⟨i + 1, by go_num, by omega⟩
            case measure => simp [intOf]; omega
        · go_wp2_with fail
          refine (wakes_any _).mono ?_
          rintro e w2 ⟨rfl, hb2⟩
          go_wp2_with fail
          go_ret
          exact ⟨rfl, hb.trans (hb2.mono hb.size)⟩
theorem codeLengths_walk (n : Int) (w : World) (_ : (Lit.int .i64 n).wf = true) :
    Calls Try.prog 10 #[.int .i64 n] w fun e w' => e = .returned (.bool true) ∧ Below w.heap.size w w' := by
  by_cases hn : 0 ≤ n ∧ n < 1099511627776
  · obtain ⟨m, rfl⟩ := Int.eq_ofNat_of_zero_le hn.1
    exact codeLengths_in m w (by omega)
  · exact codeLengths_out n w (by omega)
end Go.Proofs.Ytfjgcpeaghlcgaa
