/- The contract of code.TakeNumber. -/
import Derived.Test.YtbebfgfpdcdcoaaGreatOS0
import Derived.Lib.Hide
namespace Go.Proofs.YtbebfgfpdcdcoaaGreat
open Go.RowKit

/-- The frame of TakeNumber, its other slots whatever they are. -/
def TakeFrame (B X n nx g s : Value) (a : Act) : Prop :=
  ∃ u2 u3 u9 u10 u11 u12 u13 u14 u15 u16 u17 u18 u19 u20 u21 u22 u23 u24 u25 u26 u27 u28 u29 u30 u31 u32 u33 u34 u35 u36 u37 u38 u39 u40 u41 u42 u43 u44 u45 u46 u47 u48 u49 u50 u51 : Value, a = { tmps := #[B, X, u2, u3, n, nx, .bool false, g, s, u9, u10, u11, u12, u13, u14, u15, u16, u17, u18, u19, u20, u21, u22, u23, u24, u25, u26, u27, u28, u29, u30, u31, u32, u33, u34, u35, u36, u37, u38, u39, u40, u41, u42, u43, u44, u45, u46, u47, u48, u49, u50, u51], defers := [] }

/-- What holds at each label: 0: there is none; 1: at a group; 2: at the last group. -/
def TakeAt (B : Value) (i : Int) (zs : List Int) (l : Nat) (a : Act) : Prop :=
  ∃ (n nx g s : Int), TakeFrame B (.int .i64 i) (.int .i64 n) (.int .i64 nx) (.int .i64 g) (.int .i64 s) a ∧
    ((l = 0 ∧ takeS zs i = (0, 0, false)) ∨
     (l = 1 ∧ ∃ (k m : Nat), s = k ∧ nx = m ∧ k < 47 ∧ m < 9223372036854775807 ∧ 0 ≤ n ∧ n < 2 ^ k ∧ takeS zs i = res k n m (zs.drop m)) ∨
     (l = 2 ∧ ∃ (k m : Nat), s = k ∧ nx = m ∧ k < 40 ∧ m < 9223372036854775807 ∧ 0 ≤ n ∧ n < 2 ^ k ∧ 0 ≤ g ∧ g < 128 ∧
       takeS zs i = if (g = 0 ∧ 0 < k) ∨ 1099511627775 < n + g * 2 ^ k then (0, 0, false) else (n + g * 2 ^ k, (m : Int), true)))

/-- The labels' order. -/
def rk : Nat → Nat | 0 => 0 | 1 => 2 | _ => 1
theorem shl_bd {z : Int} {k : Nat} (h0 : 0 ≤ z) (h1 : z ≤ 127) (hk : k < 40) : 0 ≤ z * 2 ^ k ∧ z * 2 ^ k ≤ 69818988363776 := by
  have hp : (2 : Int) ^ k ≤ 2 ^ 39 := by
    have := Nat.pow_le_pow_right (n := 2) (by omega) (by omega : k ≤ 39)
    exact_mod_cast this
  have hp0 : (0 : Int) ≤ 2 ^ k := by
    have := Nat.zero_le (2 ^ k)
    exact_mod_cast this
  exact ⟨Int.mul_nonneg h0 hp0, Int.le_trans (Int.mul_le_mul h1 hp hp0 (by omega)) (by decide)⟩
theorem shl_next {z n : Int} {k : Nat} (hn : n < 2 ^ k) (h1 : z ≤ 127) : n + z * 2 ^ k < 2 ^ (k + 7) := by
  have hp0 : (0 : Int) ≤ 2 ^ k := by
    have := Nat.zero_le (2 ^ k)
    exact_mod_cast this
  have h2 : z * 2 ^ k ≤ 127 * 2 ^ k := Int.mul_le_mul_of_nonneg_right h1 hp0
  rw [Int.pow_add]
  omega
theorem pow_bd {n : Int} {k : Nat} (hn : n < 2 ^ k) (hk : k < 47) : n < 70368744177664 := by
  have hp : (2 : Int) ^ k ≤ 2 ^ 46 := by
    have := Nat.pow_le_pow_right (n := 2) (by omega) (by omega : k ≤ 46)
    exact_mod_cast this
  exact Int.lt_of_lt_of_le hn (Int.le_trans hp (by decide))

set_option maxHeartbeats 1000000 in
theorem take_any (A : Option Addr) (cap : Nat) (zs : List Int) (B : Nat) (i : Int) (w : World) (hl : zs.length ≤ 9223372036854775806) (hi : i ≤ 9223372036854775807) (hz : ∀ z ∈ zs, 0 ≤ z ∧ z ≤ 255) (hh : Has w B A (u8s zs)) :
    Calls Tryz.prog 56 #[.slice A zs.length cap, .int .i64 i] w fun e w' => e = .returned (.tuple #[.int .i64 (takeS zs i).1, .int .i64 (takeS zs i).2.1, .bool (takeS zs i).2.2]) ∧ w = w' := by
  have HH := Lib.hid hh
  have HZ := Lib.hid hz
  clear hh hz
  go_enter Tryz.func56, Tryz.ntmps56
  go_wp2
  refine wp_scope_labels (fun l a' w' => w = w' ∧ TakeAt (.slice A zs.length cap) i zs l a') (fun l a' w' => rk l + 3 * (zs.length - (intOf (a'.tmps.getD 5 undef)).toNat)) ?_ ?_
  · by_cases h0 : i < 0
    · have HF := Lib.hid (show takeS zs i = (0, 0, false) by unfold takeS; rw [if_pos h0])
      go_wp2
      go_step3
      go_wp2
      exact ⟨rfl, _, _, _, _, ⟨_, _, _, _, _, _, _, _, _, _, _, _, _, _, _, _, _, _, _, _, _, _, _, _, _, _, _, _, _, _, _, _, _, _, _, _, _, _, _, _, _, _, _, _, _, rfl⟩, Or.inl ⟨rfl, HF.out⟩⟩
    · obtain ⟨m, rfl⟩ := Int.eq_ofNat_of_zero_le (show 0 ≤ i by omega)
      have HR := Lib.hid (show takeS zs m = res 0 0 m (zs.drop m) by unfold takeS; rw [if_neg (by omega)]; rfl)
      clear h0
      by_cases h1 : m < zs.length
      · obtain ⟨ad, z, rfl, hb, hc, hd, hmem⟩ := HH.out.byte h1
        have hz0 := (HZ.out z hmem).1
        have hz1 := (HZ.out z hmem).2
        have HD := Lib.hid hd
        clear hd
        by_cases h3 : z < 128
        · have hf := HR.out
          rw [HD.out, res_last (by omega) h3] at hf
          have HF := Lib.hid hf
          clear hf
          go_wp2
          go_step3
          go_wp2
          go_step3
          go_wp2
          exact ⟨rfl, _, _, _, _, ⟨_, _, _, _, _, _, _, _, _, _, _, _, _, _, _, _, _, _, _, _, _, _, _, _, _, _, _, _, _, _, _, _, _, _, _, _, _, _, _, _, _, _, _, _, _, rfl⟩, Or.inr (Or.inr ⟨rfl, 0, m + 1, rfl, rfl, by omega, by omega, by omega, by omega, hz0, h3, HF.out⟩)⟩
        · have hf := HR.out
          rw [HD.out, res_more (by omega) (by omega), show (0 : Int) + (z - 128) * 2 ^ 0 = z - 128 by omega] at hf
          have HF := Lib.hid hf
          clear hf
          go_wp2
          go_step3
          go_wp2
          go_step3
          go_wp2
          exact ⟨rfl, _, _, _, _, ⟨_, _, _, _, _, _, _, _, _, _, _, _, _, _, _, _, _, _, _, _, _, _, _, _, _, _, _, _, _, _, _, _, _, _, _, _, _, _, _, _, _, _, _, _, _, rfl⟩, Or.inr (Or.inl ⟨rfl, 7, m + 1, rfl, rfl, by omega, by omega, by omega, by omega, HF.out⟩)⟩
      · have hf := HR.out
        rw [List.drop_eq_nil_of_le (by omega), res_nil] at hf
        have HF := Lib.hid hf
        clear hf
        go_wp2
        go_step3
        go_wp2
        go_step3
        go_wp2
        exact ⟨rfl, _, _, _, _, ⟨_, _, _, _, _, _, _, _, _, _, _, _, _, _, _, _, _, _, _, _, _, _, _, _, _, _, _, _, _, _, _, _, _, _, _, _, _, _, _, _, _, _, _, _, _, rfl⟩, Or.inl ⟨rfl, HF.out⟩⟩
  · rintro l a' w' ⟨rfl, n, nx, g, s, ⟨u2, u3, u9, u10, u11, u12, u13, u14, u15, u16, u17, u18, u19, u20, u21, u22, u23, u24, u25, u26, u27, u28, u29, u30, u31, u32, u33, u34, u35, u36, u37, u38, u39, u40, u41, u42, u43, u44, u45, u46, u47, u48, u49, u50, u51, rfl⟩, hl⟩
    rcases hl with ⟨rfl, hr⟩ | ⟨rfl, k, m, rfl, rfl, hk, hm, hn0, hn1, hr⟩ | ⟨rfl, k, m, rfl, rfl, hk, hm, hn0, hn1, hg0, hg1, hr⟩
    · refine ⟨_, rfl, ?_⟩
      have HR := Lib.hid hr
      clear hr
      go_wp2
      go_ret3
      rw [HR.out]
      exact ⟨rfl, rfl⟩
    · refine ⟨_, rfl, ?_⟩
      have HR := Lib.hid hr
      clear hr
      have HN := Lib.hid hn1
      have hn2 := pow_bd hn1 hk
      clear hn1
      by_cases h1 : m < zs.length
      · by_cases h2 : k < 40
        · obtain ⟨ad, z, rfl, hb, hc, hd, hmem⟩ := HH.out.byte h1
          have hz0 := (HZ.out z hmem).1
          have hz1 := (HZ.out z hmem).2
          have HD := Lib.hid hd
          clear hd
          by_cases h3 : z < 128
          · have hf := HR.out
            rw [HD.out, res_last h2 h3] at hf
            have HF := Lib.hid hf
            clear hf
            go_wp2
            go_step3
            go_wp2
            refine ⟨⟨_, _, _, _, ⟨_, _, _, _, _, _, _, _, _, _, _, _, _, _, _, _, _, _, _, _, _, _, _, _, _, _, _, _, _, _, _, _, _, _, _, _, _, _, _, _, _, _, _, _, _, rfl⟩, Or.inr (Or.inr ⟨rfl, k, m + 1, rfl, rfl, h2, by omega, hn0, HN.out, hz0, h3, HF.out⟩)⟩, ?_⟩
            simp [intOf, rk]; omega
          · have hf := HR.out
            rw [HD.out, res_more h2 (by omega)] at hf
            have HF := Lib.hid hf
            have hs := shl_bd (z := z - 128) (k := k) (by omega) (by omega) h2
            obtain ⟨hs0, hs1⟩ := hs
            have HX := Lib.hid (shl_next (z := z - 128) HN.out (by omega))
            clear hf
            go_wp2
            go_step3
            go_wp2
            refine ⟨⟨_, _, _, _, ⟨_, _, _, _, _, _, _, _, _, _, _, _, _, _, _, _, _, _, _, _, _, _, _, _, _, _, _, _, _, _, _, _, _, _, _, _, _, _, _, _, _, _, _, _, _, rfl⟩, Or.inr (Or.inl ⟨rfl, k + 7, m + 1, rfl, rfl, by omega, by omega, by omega, HX.out, HF.out⟩)⟩, ?_⟩
            simp [intOf]; omega
        · go_wp2
          have hf := HR.out
          rw [res_far _ _ _ (by omega)] at hf
          go_step3
          go_wp2
          refine ⟨⟨_, _, _, _, ⟨_, _, _, _, _, _, _, _, _, _, _, _, _, _, _, _, _, _, _, _, _, _, _, _, _, _, _, _, _, _, _, _, _, _, _, _, _, _, _, _, _, _, _, _, _, rfl⟩, Or.inl ⟨rfl, hf⟩⟩, ?_⟩
          simp [rk]
      · have hf := HR.out
        rw [List.drop_eq_nil_of_le (by omega), res_nil] at hf
        have HF := Lib.hid hf
        clear hf
        go_wp2
        go_step3
        go_wp2
        refine ⟨⟨_, _, _, _, ⟨_, _, _, _, _, _, _, _, _, _, _, _, _, _, _, _, _, _, _, _, _, _, _, _, _, _, _, _, _, _, _, _, _, _, _, _, _, _, _, _, _, _, _, _, _, rfl⟩, Or.inl ⟨rfl, HF.out⟩⟩, ?_⟩
        simp [rk]
    · refine ⟨_, rfl, ?_⟩
      have HR := Lib.hid hr
      clear hr
      have hs := shl_bd hg0 (by omega) hk
      obtain ⟨hs0, hs1⟩ := hs
      have HN := Lib.hid hn1
      have hn2 := pow_bd hn1 (by omega)
      clear hn1
      by_cases c1 : g = 0
      · subst c1
        by_cases c2 : 0 < k
        · have hf := HR.out
          rw [if_pos (Or.inl ⟨rfl, c2⟩)] at hf
          have HF := Lib.hid hf
          clear hf
          go_wp2
          go_step3
          go_wp2
          refine ⟨⟨_, _, _, _, ⟨_, _, _, _, _, _, _, _, _, _, _, _, _, _, _, _, _, _, _, _, _, _, _, _, _, _, _, _, _, _, _, _, _, _, _, _, _, _, _, _, _, _, _, _, _, rfl⟩, Or.inl ⟨rfl, HF.out⟩⟩, ?_⟩
          simp [rk]
        · by_cases c3 : 1099511627775 < n
          · have hf := HR.out
            rw [if_pos (Or.inr (by omega))] at hf
            have HF := Lib.hid hf
            clear hf
            go_wp2
            go_step3
            go_wp2
            refine ⟨⟨_, _, _, _, ⟨_, _, _, _, _, _, _, _, _, _, _, _, _, _, _, _, _, _, _, _, _, _, _, _, _, _, _, _, _, _, _, _, _, _, _, _, _, _, _, _, _, _, _, _, _, rfl⟩, Or.inl ⟨rfl, HF.out⟩⟩, ?_⟩
            simp [rk]
          · have hf := HR.out
            rw [if_neg (by omega)] at hf
            have HF := Lib.hid hf
            clear hf
            go_wp2
            go_ret3
            rw [HF.out]
            exact ⟨by simp, rfl⟩
      · by_cases c3 : 1099511627775 < n + g * 2 ^ k
        · have hf := HR.out
          rw [if_pos (Or.inr c3)] at hf
          have HF := Lib.hid hf
          clear hf
          go_wp2
          go_step3
          go_wp2
          refine ⟨⟨_, _, _, _, ⟨_, _, _, _, _, _, _, _, _, _, _, _, _, _, _, _, _, _, _, _, _, _, _, _, _, _, _, _, _, _, _, _, _, _, _, _, _, _, _, _, _, _, _, _, _, rfl⟩, Or.inl ⟨rfl, HF.out⟩⟩, ?_⟩
          simp [rk]
        · have hf := HR.out
          rw [if_neg (by omega)] at hf
          have HF := Lib.hid hf
          clear hf
          go_wp2
          go_ret3
          rw [HF.out]
          exact ⟨rfl, rfl⟩
end Go.Proofs.YtbebfgfpdcdcoaaGreat
