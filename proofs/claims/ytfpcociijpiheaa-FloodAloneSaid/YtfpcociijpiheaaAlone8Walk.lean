/- The walk of FloodAlone: it returns true for any five ints. -/
import Derived.Test.YtfpcociijpiheaaGuard
import Derived.Test.YtfpcociijpiheaaWithin
namespace Go.Proofs.Ytfpcociijpiheaa
open Go.RowKit Go.Maps

set_option maxHeartbeats 2000000 in
set_option maxRecDepth 100000 in
theorem floodAlone_walk (a0 a1 a2 a3 a4 : Int) (w : World) (w0 : (Lit.int .i64 a0).wf = true) (w1 : (Lit.int .i64 a1).wf = true) (w2 : (Lit.int .i64 a2).wf = true) (w3 : (Lit.int .i64 a3).wf = true) (w4 : (Lit.int .i64 a4).wf = true) :
    Calls Try.prog 4 #[.int .i64 a0, .int .i64 a1, .int .i64 a2, .int .i64 a3, .int .i64 a4] w fun e w' => e = .returned (.bool true) ∧ Below w.heap.size w w' := by
  obtain ⟨b0, b1⟩ := wf_i64 w0
  obtain ⟨b2, b3⟩ := wf_i64 w1
  obtain ⟨b4, b5⟩ := wf_i64 w4
  obtain ⟨a, ha⟩ : ∃ a : Nat, a0 % 64 = a := ⟨(a0 % 64).toNat, by omega⟩
  obtain ⟨b, hb⟩ : ∃ b : Nat, a1 % 64 = b := ⟨(a1 % 64).toNat, by omega⟩
  obtain ⟨c, hc⟩ : ∃ c : Nat, a4 % 10000 = c := ⟨(a4 % 10000).toNat, by omega⟩
  have ha1 : a < 64 := by omega
  have hb1 : b < 64 := by omega
  have hc1 : c < 10000 := by omega
  have HW0 := Lib.hid (fun w => within_any a0 64 (by omega) (by omega) b0 b1 w)
  have HW1 := Lib.hid (fun w => within_any a1 64 (by omega) (by omega) b2 b3 w)
  have HW2 := Lib.hid (fun w => within_any a4 10000 (by omega) (by omega) b4 b5 w)
  rw [ha] at HW0
  rw [hb] at HW1
  rw [hc] at HW2
  have HA := Lib.hid (show fit a2 from w2)
  have HBf := Lib.hid (show fit a3 from w3)
  have HM := Lib.hid (show ∀ N : Nat, N ≤ 100 → N < maxLen from fun N h => by unfold maxLen; omega)
  clear ha hb hc w0 w1 w2 w3 w4 b0 b1 b2 b3 b4 b5
  go_enter Try.func4, Try.ntmps4
  go_wp2_with fail
  refine (HW0.out _).mono ?_
  rintro e wv ⟨rfl, rfl⟩
  go_wp2_with fail
  refine (HW1.out _).mono ?_
  rintro e wv ⟨rfl, rfl⟩
  go_wp2_with fail
  refine (HW2.out _).mono ?_
  rintro e wv ⟨rfl, rfl⟩
  by_cases hab : a2 = a3
  · go_wp2_with fail
    refine (wakes8_any _).mono ?_
    rintro e w4 ⟨rfl, hb4⟩
    go_wp2_with fail
    go_ret
    exact ⟨rfl, hb4⟩
  have HNE := Lib.hid hab
  go_wp2_with fail
  refine (gnew_any (m := 1 + (a : Int)) (t := 1 + (b : Int)) (by omega) (by omega) _).mono ?_
  rintro e w1 ⟨gb, bm, rfl, hG, h1, h2, hb⟩
  have HZ := Lib.hid (show ∀ k, k < w.heap.size → ¬ k = bm from fun k hk he => by omega)
  have HB := Lib.hid hb
  have HG := Lib.hid hG
  clear hb hG h1 h2
  go_wp2_with fail
  go_loopw [13] (fun x wr => ∃ (k : Nat) (S : Gs), x = .int .i64 k ∧ k ≤ a + 1 ∧ Hid (Gd wr gb bm (1 + a) (1 + b) k S) ∧ Hid (S a2 = ((k : Int), 0)) ∧ Hid (S a3 = (0, 0)) ∧ Hid (Below w.heap.size w wr)) (fun x _ => a + 1 - (intOf x).toNat)
  case atStart => exact ⟨0, Gs.new, rfl, Nat.zero_le _, HG, Lib.hid rfl, Lib.hid rfl, HB⟩
  case round =>
    obtain ⟨k, S, rfl, hk, HG, HS, HS3, HB⟩ := hrel
    by_cases hlt : k < a + 1
    · go_wp2_with fail
      refine (bad_off HG.out (HM.out k (by omega)) (by omega) (by omega) HA.out (fit_of (by omega) (by omega)) HS.out (by omega) (by omega)).mono ?_
      rintro e w2 ⟨rfl, hG2, ht2⟩
      have HB2 := Lib.hid (HB.out.trans (ht2.below HB.out.size HZ.out))
      have HG2 := Lib.hid hG2
      clear hG2 ht2
      go_wp2_with fail
      refine (shut_off HG2.out HA.out (fit_of (by omega) (by omega)) (Gs.set_same _ _ _) (by have := (near_in (c : Int)).1; omega)).mono ?_
      rintro e w3 ⟨rfl, hG3, hb3⟩
      have HB3 := Lib.hid (HB2.out.trans (hb3.mono HB2.out.size))
      have HG3 := Lib.hid hG3
      clear hG3 hb3
      go_wp2_with fail
      go_roundw
      case rel => exact ⟨k + 1, S.set a2 ((k : Int) + 1, 0), by go_num, by omega, by simpa using HG3, Lib.hid (by rw [Gs.set_same]; simp), Lib.hid (by rw [Gs.set_other _ (fun e => HNE.out e.symm)]; exact HS3.out), HB3⟩
      case measure => simp [intOf]; omega
    · obtain rfl : k = a + 1 := by omega
      have HN1 := Lib.hid (near_same (c := (c : Int)) (by omega))
      have HN2 := Lib.hid (near_same (c := (c : Int) + (1 + (b : Int)) - 1) (by omega))
      have HN3 := Lib.hid (near_same (c := (c : Int) + (1 + (b : Int))) (by omega))
      go_wp2_with fail
      refine (bad_on HG.out (HM.out _ (by omega)) (by omega) (by omega) HA.out (fit_of (by omega) (by omega)) HS.out (by omega) (by simp; omega)).mono ?_
      rintro e w2 ⟨rfl, hG2, ht2⟩
      rw [HN1.out] at hG2
      have HB2 := Lib.hid (HB.out.trans (ht2.below HB.out.size HZ.out))
      have HG2 := Lib.hid hG2
      have HS4 := Lib.hid (show (S.set a2 (0, (c : Int) + (1 + (b : Int)))) a3 = (0, 0) from (Gs.set_other _ (fun e => HNE.out e.symm) _).trans HS3.out)
      clear hG2 ht2
      go_wp2_with fail
      refine (count_on HG2.out HA.out (Gs.set_same _ _ _)).mono ?_
      rintro e w3 ⟨rfl, rfl⟩
      go_wp2_with fail
      refine (shut_off HG2.out HBf.out (fit_of (by omega) (by omega)) HS4.out (by rw [HN1.out]; omega)).mono ?_
      rintro e w3 ⟨rfl, hG3, hb3⟩
      have HB3 := Lib.hid (HB2.out.trans (hb3.mono HB2.out.size))
      have HG3 := Lib.hid hG3
      clear hG3 hb3
      go_wp2_with fail
      refine (count_on HG3.out HBf.out HS4.out).mono ?_
      rintro e w4 ⟨rfl, rfl⟩
      go_wp2_with fail
      refine (shut_on HG3.out HA.out (fit_of (by omega) (by omega)) (Gs.set_same _ _ _) (by rw [HN2.out]; omega)).mono ?_
      rintro e w5 ⟨rfl, hG5, hb5⟩
      have HB5 := Lib.hid (HB3.out.trans (hb5.mono HB3.out.size))
      have HG5 := Lib.hid hG5
      clear hG5 hb5
      go_wp2_with fail
      refine (shut_off HG5.out HA.out (fit_of (by omega) (by omega)) (Gs.set_same _ _ _) (by rw [HN3.out]; omega)).mono ?_
      rintro e w6 ⟨rfl, hG6, hb6⟩
      have HB6 := Lib.hid (HB5.out.trans (hb6.mono HB5.out.size))
      clear hG6 hb6
      go_wp2_with fail
      refine (wakes8_any _).mono ?_
      rintro e w7 ⟨rfl, hb7⟩
      go_wp2_with fail
      go_ret
      exact ⟨rfl, HB6.out.trans (hb7.mono HB6.out.size)⟩
end Go.Proofs.Ytfpcociijpiheaa
