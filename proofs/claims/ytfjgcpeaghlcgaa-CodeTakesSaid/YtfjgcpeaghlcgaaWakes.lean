/- The contracts of keep.Within and of wakes, the document's examples: it returns true; below the call's own blocks nothing has changed. -/
import Derived.Test.YtfjgcpeaghlcgaaSame
import Derived.Test.YtfjgcpeaghlcgaaRefs
namespace Go.Proofs.Ytfjgcpeaghlcgaa
open Go.RowKit

theorem enc300 : enc 300 = [172, 2] := by rw [enc_big (by omega), enc_small (by omega)]; rfl
theorem number300 (w : World) : Calls Try.prog 16 #[.int .i64 300] w fun e w' => ∃ g c, e = .returned (.tuple #[.slice (some ⟨g, 0, none⟩) 2 c, .bool true]) ∧
    Has w' w'.heap.size (some ⟨g, 0, none⟩) (u8s [172, 2]) ∧ Below w.heap.size w w' :=
  (number_row 300 (by omega) w).mono fun e w' h => by
    obtain ⟨g, c, rfl, ho, hb⟩ := h
    rw [enc300] at ho ⊢
    exact ⟨g, c, rfl, Has.own ho, hb⟩
theorem take_bad (w : World) (g c : Nat) (hh : Has w (g + 1) (some ⟨g, 0, none⟩) (u8s [128, 0])) :
    Calls Try.prog 18 #[.slice (some ⟨g, 0, none⟩) 2 c, .int .i64 0] w fun e w' => e = .returned (.tuple #[.int .i64 0, .int .i64 0, .bool false]) ∧ w = w' :=
  take_any (some ⟨g, 0, none⟩) c [128, 0] (g + 1) 0 w (by decide) (by decide) (by simp) hh
theorem same_good (A A' : Option Addr) (c c' : Nat) (B : Nat) (w : World) (h1 : Has w B A (u8s [172, 2])) (h2 : Has w B A' (u8s [172, 2])) :
    Calls Try.prog 21 #[.slice A 2 c, .slice A' 2 c'] w fun e w' => e = .returned (.bool true) ∧ Below w.heap.size w w' :=
  same_any A A' c c' [172, 2] [172, 2] B w (by decide) h1 h2

theorem fresh2 (w : World) (a b : Int) : Has (w.alloc (.cells #[.int .u8 a, .int .u8 b] 5)) (w.heap.size + 1) (some ⟨w.heap.size, 0, none⟩) (u8s [a, b]) :=
  Has.fresh w #[.int .u8 a, .int .u8 b] 5

set_option maxHeartbeats 400000 in
theorem wakes_any (w : World) : Calls Try.prog 14 #[] w fun e w' => e = .returned (.bool true) ∧ Below w.heap.size w w' := by
  go_enter Try.func14, Try.ntmps14
  go_wp2_with fail
  refine (number300 _).mono ?_
  rintro e w1 ⟨g, c, rfl, hh, hb⟩
  have HF := Lib.hid (fresh2 w1 128 0)
  have HH := Lib.hid ((hh.below (Below.alloc (B := w1.heap.size) (Below.refl _ w1) (Nat.le_refl _) (.cells #[.int .u8 128, .int .u8 0] 5)) (Nat.le_refl _)).below
    (Below.alloc (B := w1.heap.size) (Below.refl _ (w1.alloc (.cells #[.int .u8 128, .int .u8 0] 5))) (by simp) (.cells #[.int .u8 172, .int .u8 2] 5)) (Nat.le_refl _))
  have hg := fresh2 (w1.alloc (.cells #[.int .u8 128, .int .u8 0] 5)) 172 2
  rw [show (w1.alloc (.cells #[.int .u8 128, .int .u8 0] 5)).heap.size = w1.heap.size + 1 by simp] at hg
  have HG := Lib.hid hg
  clear hg
  clear hh
  go_wp2_with fail
  refine (take_bad _ _ _ HF.out).mono ?_
  rintro e w2 ⟨rfl, rfl⟩
  go_wp2_with fail
  refine (same_good _ _ _ _ (w1.heap.size + 1 + 1) _ (HH.out.more (by omega)) HG.out).mono ?_
  rintro e w3 ⟨rfl, hb3⟩
  go_wp2_with fail
  refine (zig_any _ _).mono ?_
  rintro e w4 ⟨rfl, rfl⟩
  go_wp2_with fail
  go_ret
  refine ⟨rfl, ?_⟩
  exact ((hb.alloc hb.size _).alloc (by have := hb.size; simp; omega) _).trans (hb3.mono (by have := hb.size; simp; omega))

/-- keep.Within's rest. -/
theorem tmod_cases {v n : Int} (hn : 1 ≤ n) (hv : v < 0) : -n < v.tmod n ∧ v.tmod n ≤ 0 ∧ v % n = if v.tmod n < 0 then v.tmod n + n else v.tmod n := by
  have h1 : v.tmod n = -((-v) % n) := by
    rw [← Int.neg_neg v, Int.neg_tmod, Int.neg_neg, Int.tmod_eq_emod_of_nonneg (by omega)]
  have h2 := Int.emod_nonneg (-v) (by omega : n ≠ 0)
  have h3 := Int.emod_lt_of_pos (-v) (by omega : 0 < n)
  refine ⟨by omega, by omega, ?_⟩
  have h4 : v = n * (-((-v) / n)) + v.tmod n := by
    have := Int.mul_ediv_add_emod (-v) n
    rw [h1, Int.mul_neg]; omega
  split
  · rename_i h5
    have h6 : v % n = (v.tmod n + n + n * (-((-v) / n) - 1)) % n := by
      congr 1
      rw [Int.mul_sub]; omega
    rw [h6, Int.add_mul_emod_self_left, Int.emod_eq_of_lt (by omega) (by omega)]
  · have h6 : v % n = (v.tmod n + n * (-((-v) / n))) % n := by
      congr 1
      omega
    rw [h6, Int.add_mul_emod_self_left, Int.emod_eq_of_lt (by omega) (by omega)]

set_option maxHeartbeats 400000 in
theorem within_any (v n : Int) (h0 : 1 ≤ n) (h1 : n ≤ 4611686018427387904) (hv : -9223372036854775808 ≤ v) (hv' : v ≤ 9223372036854775807) (w : World) :
    Calls Try.prog 19 #[.int .i64 v, .int .i64 n] w fun e w' => e = .returned (.int .i64 (v % n)) ∧ w = w' := by
  by_cases hs : 0 ≤ v
  · have hm := Int.emod_nonneg v (by omega : n ≠ 0)
    go_enter Try.func19, Try.ntmps19
    go_wp2
    go_ret
    exact ⟨rfl, rfl⟩
  · obtain ⟨hm0, hm1, hm2⟩ := tmod_cases h0 (by omega : v < 0)
    have HM := Lib.hid hm2
    clear hm2
    by_cases hc : v.tmod n < 0
    · have HE := Lib.hid (show v % n = v.tmod n + n by rw [HM.out, if_pos hc])
      go_enter Try.func19, Try.ntmps19
      go_wp2
      go_ret
      exact ⟨by rw [HE.out]; rfl, rfl⟩
    · have HE := Lib.hid (show v % n = v.tmod n by rw [HM.out, if_neg hc])
      go_enter Try.func19, Try.ntmps19
      go_wp2
      go_ret
      exact ⟨by rw [HE.out]; rfl, rfl⟩
end Go.Proofs.Ytfjgcpeaghlcgaa
