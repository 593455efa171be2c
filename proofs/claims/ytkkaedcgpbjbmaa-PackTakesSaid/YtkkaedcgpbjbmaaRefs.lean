/- The contracts of the document's own Take, Zig and Zag, and of code.TakeSigned. -/
import Derived.Test.YtkkaedcgpbjbmaaTake
import Derived.Test.YtkkaedcgpbjbmaaSignum
namespace Go.Proofs.Ytkkaedcgpbjbmaa
open Go.RowKit

set_option maxHeartbeats 400000 in
theorem refzig_any (n : Int) (w : World) :
    Calls Try.prog 78 #[.int .i64 n] w fun e w' => e = .returned (.int .i64 (zigS n)) ∧ w = w' := by
  by_cases h0 : n < -549755813888
  · have e2 : zigS n = 0 := by simp only [zigS, if_neg (by omega : ¬ (-549755813888 ≤ n ∧ n < 549755813888))]
    rw [e2]
    go_enter Try.func78, Try.ntmps78
    go_wp2
    go_ret
    exact ⟨rfl, rfl⟩
  · have h1 : -549755813888 ≤ n := by omega
    by_cases h2 : n < 549755813888
    · by_cases h3 : n < 0
      · have e2 : zigS n = -2 * n - 1 := by simp [zigS, h1, h2, h3]
        rw [e2]
        go_enter Try.func78, Try.ntmps78
        go_wp2
        go_ret
        exact ⟨rfl, rfl⟩
      · have e2 : zigS n = 2 * n := by simp [zigS, h1, h2, h3]
        rw [e2]
        go_enter Try.func78, Try.ntmps78
        go_wp2
        go_ret
        exact ⟨rfl, rfl⟩
    · have e2 : zigS n = 0 := by simp only [zigS, if_neg (by omega : ¬ (-549755813888 ≤ n ∧ n < 549755813888))]
      rw [e2]
      have h2' : 549755813888 ≤ n := by omega
      go_enter Try.func78, Try.ntmps78
      go_wp2
      go_ret
      exact ⟨rfl, rfl⟩

set_option maxHeartbeats 400000 in
theorem refzag_any (n : Int) (w : World) :
    Calls Try.prog 62 #[.int .i64 n] w fun e w' => e = .returned (.int .i64 (zagS n)) ∧ w = w' := by
  by_cases h1 : n < 0
  · have e2 : zagS n = 0 := by simp [zagS, h1]
    rw [e2]
    go_enter Try.func62, Try.ntmps62
    go_wp2
    go_ret
    exact ⟨rfl, rfl⟩
  · have h1' : 0 ≤ n := by omega
    by_cases h2 : 1099511627776 ≤ n
    · have e2 : zagS n = 0 := by simp [zagS]; omega
      rw [e2]
      go_enter Try.func62, Try.ntmps62
      go_wp2
      go_ret
      exact ⟨rfl, rfl⟩
    · have h2' : n < 1099511627776 := by omega
      by_cases h3 : n % 2 = 1
      · have e2 : zagS n = -((n + 1) / 2) := by simp [zagS, h3]; omega
        rw [e2]
        go_enter Try.func62, Try.ntmps62
        go_wp2
        go_ret
        refine ⟨?_, rfl⟩
        show Ending.returned (.int .i64 (wrap64 (-((n + 1).tdiv 2)))) = _
        rw [Int.tdiv_eq_ediv_of_nonneg (by omega), IntWalk.wrap64_in _ ⟨by omega, by omega⟩]
      · have e2 : zagS n = n / 2 := by simp [zagS, h3]; omega
        rw [e2]
        go_enter Try.func62, Try.ntmps62
        go_wp2
        go_ret
        exact ⟨rfl, rfl⟩

set_option maxHeartbeats 400000 in
theorem takesigned_any (A : Option Addr) (cap : Nat) (zs : List Int) (B : Nat) (i : Int) (w : World) (hl : zs.length ≤ 9223372036854775806) (hi : i ≤ 9223372036854775807) (hz : ∀ z ∈ zs, 0 ≤ z ∧ z ≤ 255) (hh : Has w B A (u8s zs)) :
    Calls Try.prog 55 #[.slice A zs.length cap, .int .i64 i] w fun e w' => e = .returned (.tuple #[.int .i64 (zagS (takeS zs i).1), .int .i64 (takeS zs i).2.1, .bool (takeS zs i).2.2]) ∧ w = w' := by
  have HH := Lib.hid hh
  have HZ := Lib.hid hz
  clear hh hz
  go_enter Try.func55, Try.ntmps55
  go_wp2_with (first | (go_at_call 51; refine (take_any A cap zs B i _ hl hi HZ.out HH.out).mono ?_; rintro e w' ⟨rfl, rfl⟩) | (go_at_call 74; refine (zag_any _ _).mono ?_; rintro e w' ⟨rfl, rfl⟩))
  go_ret3
  exact ⟨rfl, rfl⟩

/-- The weight of group k. -/
def pw (k : Nat) : Int := 2 ^ (7 * k)
theorem pw_next (k : Nat) : 128 * pw k = pw (k + 1) := by
  unfold pw
  rw [Nat.mul_add, Int.pow_add]
  omega
theorem pw_bd {k : Nat} (hk : k ≤ 6) : 1 ≤ pw k ∧ pw k ≤ 4398046511104 := by
  rcases (by omega : k = 0 ∨ k = 1 ∨ k = 2 ∨ k = 3 ∨ k = 4 ∨ k = 5 ∨ k = 6) with rfl | rfl | rfl | rfl | rfl | rfl | rfl <;> decide

theorem pw_mul {z : Int} {k : Nat} (h0 : 0 ≤ z) (h1 : z ≤ 127) (hk : k < 6) : 0 ≤ z * pw k ∧ z * pw k ≤ 69818988363776 :=
  shl_bd h0 h1 (by omega)
theorem pw_step {z acc : Int} {k : Nat} (ha : acc < pw k) (h1 : z ≤ 127) : acc + z * pw k < pw (k + 1) := by
  have h := shl_next (z := z) (k := 7 * k) ha h1
  exact h

set_option maxHeartbeats 1000000 in
theorem reftake_any (A : Option Addr) (cap : Nat) (zs : List Int) (B : Nat) (i : Int) (w : World) (hl : zs.length ≤ 9223372036854775806) (hi : i ≤ 9223372036854775807) (hz : ∀ z ∈ zs, 0 ≤ z ∧ z ≤ 255) (hh : Has w B A (u8s zs)) :
    Calls Try.prog 75 #[.slice A zs.length cap, .int .i64 i] w fun e w' => e = .returned (.tuple #[.int .i64 (takeS zs i).1, .int .i64 (takeS zs i).2.1, .bool (takeS zs i).2.2]) ∧ w = w' := by
  have HH := Lib.hid hh
  have HZ := Lib.hid hz
  clear hh hz
  by_cases h0 : i < 0
  · have HF := Lib.hid (show takeS zs i = (0, 0, false) by unfold takeS; rw [if_pos h0])
    go_enter Try.func75, Try.ntmps75
    go_wp2
    go_ret3
    rw [HF.out]
    exact ⟨rfl, rfl⟩
  · obtain ⟨m0, rfl⟩ := Int.eq_ofNat_of_zero_le (show 0 ≤ i by omega)
    have HR := Lib.hid (show takeS zs m0 = res 0 0 m0 (zs.drop m0) by unfold takeS; rw [if_neg (by omega)]; rfl)
    clear h0
    go_enter Try.func75, Try.ntmps75
    go_wp2
    go_loop [1, 7, 8, 9] (fun x n o kk => ∃ (k m : Nat) (acc : Int), x = .int .i64 m ∧ n = .int .i64 acc ∧ o = .int .i64 (pw k) ∧ kk = .int .i64 k ∧ k ≤ 6 ∧ m ≤ 9223372036854775807 ∧ 0 ≤ acc ∧ acc < pw k ∧ Hid (takeS zs m0 = res (7 * k) acc m (zs.drop m))) (fun _ _ _ kk => 6 - (intOf kk).toNat)
    case atStart => exact ⟨0, m0, 0, rfl, rfl, rfl, rfl, by omega, by omega, by omega, by decide, HR.out⟩
    case round =>
      obtain ⟨k, m, acc, rfl, rfl, rfl, rfl, hk, hm, ha0, ha1, HF⟩ := hrel
      have hp := pw_bd hk
      obtain ⟨hp0, hp1⟩ := hp
      by_cases hk6 : k < 6
      · by_cases h1 : m < zs.length
        · obtain ⟨ad, z, rfl, hb, hc, hd, hmem⟩ := HH.out.byte h1
          have hz0 := (HZ.out z hmem).1
          have hz1 := (HZ.out z hmem).2
          have HD := Lib.hid hd
          clear hd
          by_cases h3 : z < 128
          · have hzm : z % 128 = z := by omega
            have hs := pw_mul (z := z) (k := k) hz0 (by omega) (by omega)
            obtain ⟨hs0, hs1⟩ := hs
            have ha2 : acc ≤ 4398046511104 := by omega
            have hf := HF.out
            rw [HD.out, res_last (by omega) h3] at hf
            have HG := Lib.hid (show takeS zs m0 = if (z = 0 ∧ 0 < 7 * k) ∨ 1099511627775 < acc + z * pw k then (0, 0, false) else (acc + z * pw k, ((m + 1 : Nat) : Int), true) from hf)
            clear hf
            by_cases c1 : 1099511627776 ≤ acc + z * pw k
            · have HT := Lib.hid (show takeS zs m0 = (0, 0, false) by rw [HG.out, if_pos (Or.inr (by omega))])
              go_wp2
              all_goals
                go_ret3
                rw [HT.out]
                exact ⟨rfl, rfl⟩
            · have c1' : acc + z * pw k < 1099511627776 := by omega
              by_cases c2 : z = 0
              · subst c2
                by_cases c3 : 0 < k
                · have HT := Lib.hid (show takeS zs m0 = (0, 0, false) by rw [HG.out, if_pos (Or.inl ⟨rfl, by omega⟩)])
                  go_wp2
                  all_goals
                    go_ret3
                    rw [HT.out]
                    exact ⟨rfl, rfl⟩
                · have hk0 : k = 0 := by omega
                  have c4 : acc < 1099511627776 := by omega
                  have HT := Lib.hid (show takeS zs m0 = (acc, ((m + 1 : Nat) : Int), true) by rw [HG.out, if_neg (by omega)]; simp)
                  clear hk0
                  go_wp2
                  all_goals
                    go_ret3
                    rw [HT.out]
                    exact ⟨by simp, rfl⟩
              · have HT := Lib.hid (show takeS zs m0 = (acc + z * pw k, ((m + 1 : Nat) : Int), true) by rw [HG.out, if_neg (by omega)])
                go_wp2
                all_goals
                  go_ret3
                  rw [HT.out]
                  exact ⟨by simp, rfl⟩
          · have hzm : z % 128 = z - 128 := by omega
            have hs := pw_mul (z := z - 128) (k := k) (by omega) (by omega) (by omega)
            obtain ⟨hs0, hs1⟩ := hs
            have ha2 : acc ≤ 4398046511104 := by omega
            have hf := HF.out
            rw [HD.out, res_more (by omega) (by omega)] at hf
            have HG := Lib.hid (show takeS zs m0 = res (7 * (k + 1)) (acc + (z - 128) * pw k) (m + 1) (zs.drop (m + 1)) from hf)
            have HX := Lib.hid (pw_step (z := z - 128) ha1 (by omega))
            have HW := Lib.hid (pw_next k)
            clear hf
            go_wp2
            go_round
            case rel => exact ⟨k + 1, m + 1, _, rfl, rfl, by rw [HW.out], rfl, by omega, by omega, by omega, HX.out, HG.out⟩
            case measure => simp [intOf]; omega
        · have hf := HF.out
          rw [List.drop_eq_nil_of_le (by omega), res_nil] at hf
          have HG := Lib.hid hf
          clear hf
          go_wp2
          go_ret3
          rw [HG.out]
          exact ⟨rfl, rfl⟩
      · have hf := HF.out
        rw [res_far _ _ _ (by omega)] at hf
        have HG := Lib.hid hf
        clear hf
        go_wp2
        all_goals
          go_ret3
          rw [HG.out]
          exact ⟨rfl, rfl⟩
end Go.Proofs.Ytkkaedcgpbjbmaa
