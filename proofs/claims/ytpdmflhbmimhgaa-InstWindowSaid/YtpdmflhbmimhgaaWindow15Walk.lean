/- The walk of InstWindow: it returns true for any ints. -/
import Derived.Test.YtpdmflhbmimhgaaInstD
namespace Go.Proofs.Ytpdmflhbmimhgaa
open Go.RowKit
set_option linter.unusedSimpArgs false

/-- So many slots have been adopted. -/
def adL (j : Nat) : List Px := (List.range 16).map fun i => ⟨Sx.new 4, none, if i < j then some ⟨0, 0, (i : Int) + 1, [], []⟩ else none⟩
def adX (a : Int) (j : Nat) : Ix := ⟨1, 0, a, 0, true, adL j⟩
theorem adX_new (a : Int) : Ix.new 1 0 a 4 = adX a 0 := by
  unfold Ix.new adX
  have : adL 0 = List.replicate 16 ⟨Sx.new 4, none, none⟩ := rfl
  rw [this]
theorem adL_at {i j : Nat} (h : i < 16) : (adL j)[i]? = some ⟨Sx.new 4, none, if i < j then some ⟨0, 0, (i : Int) + 1, [], []⟩ else none⟩ := by
  unfold adL
  rw [List.getElem?_map, List.getElem?_range h]
  rfl
theorem adL_set {j : Nat} (h : j < 16) : (adL j).set j ⟨Sx.new 4, none, some ⟨0, 0, (j : Int) + 1, [], []⟩⟩ = adL (j + 1) := by
  apply List.ext_getElem?
  intro i
  rw [List.getElem?_set]
  by_cases hi : i < 16
  · rw [adL_at hi, adL_at hi]
    by_cases hij : j = i
    · subst hij
      rw [if_pos rfl, if_pos (by unfold adL; simp; omega), if_pos (by omega)]
    · rw [if_neg hij]
      by_cases h2 : i < j
      · rw [if_pos h2, if_pos (by omega)]
      · rw [if_neg h2, if_neg (by omega)]
  · rw [if_neg (by omega), List.getElem?_eq_none (by unfold adL; simp; omega), List.getElem?_eq_none (by unfold adL; simp; omega)]
theorem adL_done : ∀ j, j < 17 → doneL (adL j) = j := by decide +kernel
set_option maxRecDepth 100000 in
set_option maxHeartbeats 4000000 in
theorem instWindow_walk (a0 a1 a2 : Int) (w : World) (w0 : (Lit.int .i64 a0).wf = true) (w1 : (Lit.int .i64 a1).wf = true) (w2 : (Lit.int .i64 a2).wf = true) :
    Calls Try.prog 3 #[.int .i64 a0, .int .i64 a1, .int .i64 a2] w fun e w' => e = .returned (.bool true) ∧ Below w.heap.size w w' := by
  obtain ⟨b0, b1⟩ := wf_i64 w0
  obtain ⟨b2, b3⟩ := wf_i64 w1
  obtain ⟨b4, b5⟩ := wf_i64 w2
  have HW0 := Lib.hid (fun w => within_any a0 16 (by omega) (by omega) b0 b1 w)
  have HW1 := Lib.hid (fun w => within_any a1 17 (by omega) (by omega) b2 b3 w)
  have HW2 := Lib.hid (fun w => within_any a2 19 (by omega) (by omega) b4 b5 w)
  obtain ⟨p, hp⟩ : ∃ p : Nat, a0 % 16 = p := ⟨(a0 % 16).toNat, by omega⟩
  obtain ⟨d, hd⟩ : ∃ p : Nat, a1 % 17 = p := ⟨(a1 % 17).toNat, by omega⟩
  obtain ⟨s, hs⟩ : ∃ p : Int, a2 % 19 = p := ⟨_, rfl⟩
  have q0 : (p : Int) < 16 := by omega
  have q1 : (d : Int) < 17 := by omega
  have q2 : 0 ≤ s ∧ s < 19 := by omega
  rw [hp] at HW0
  rw [hd] at HW1
  rw [hs] at HW2
  have HNew := Lib.hid (fun w => r_new (f := 1) (num := 0) (ah := 1 + (p : Int)) (n := 4) (by omega) (by omega) (by omega) (by omega) (by omega) (by omega) (by omega) w w (Below.refl _ _))
  rw [adX_new] at HNew
  have HQ := Lib.hid (And.intro q0 (And.intro q1 q2))
  clear w0 w1 w2 b0 b1 b2 b3 b4 b5 hp hd hs
  go_enter Try.func3, Try.ntmps3
  go_wp2_with fail
  refine (HW0.out _).mono ?_
  rintro e wa ⟨rfl, rfl⟩
  go_wp2_with fail
  refine (HW1.out _).mono ?_
  rintro e wa ⟨rfl, rfl⟩
  go_wp2_with fail
  refine (HW2.out _).mono ?_
  rintro e wa ⟨rfl, rfl⟩
  go_wp2_with fail
  refine (HNew.out _).mono ?_
  rintro e w1 ⟨ib, rfl, hR, -⟩
  have HR := Lib.hid hR
  clear hR
  go_wp2_with fail
  go_loopw [9] (fun y wr => ∃ k : Nat, y = .int .i64 ((k : Int) + 1) ∧ k ≤ d ∧ Hid (Ri w ib (adX (1 + (p : Int)) k) wr)) (fun y _ => d + 1 - (intOf y).toNat)
  case atStart => exact ⟨0, rfl, Nat.zero_le _, HR⟩
  case round =>
    obtain ⟨k, rfl, hk, HR⟩ := hrel
    by_cases hlt : k < d
    · have hlt' : (k : Int) + 1 ≤ (d : Int) := by omega
      have hk16 : k < 16 := by omega
      have HA := Lib.hid (r_adopt (k := k) (p := ⟨Sx.new 4, none, none⟩) HR.out (by have := adL_at (j := k) hk16; rw [if_neg (by omega)] at this; exact this) rfl 0 (b := []) (v := []) (A := none) (B := none) (n := 0) (m := 0) (B0 := 0) (Has.nil _ _ _) (Has.nil _ _ _) rfl rfl (Nat.zero_le _) (by omega) (by omega) 0 0)
      go_wp2_with fail
      refine HA.out.mono ?_
      rintro e w2 ⟨rfl, hr, -⟩
      have HR2 := Lib.hid (show Ri w ib (adX (1 + (p : Int)) (k + 1)) w2 from by
        have : (adX (1 + (p : Int)) k).put k ⟨Sx.new 4, none, some ⟨0, 0, (k : Int) + 1, [], []⟩⟩ = adX (1 + (p : Int)) (k + 1) := by
          unfold Ix.put adX
          simp only [adL_set hk16]
        rw [← this]
        exact hr)
      clear hr HA
      go_wp2_with fail
      go_roundw
      case rel => exact ⟨k + 1, by go_num, by omega, HR2⟩
      case measure => simp [intOf]; omega
    · obtain rfl : k = d := by omega
      have hlt' : ¬ (k : Int) + 1 ≤ (k : Int) := by omega
      have HD := Lib.hid (r_done HR.out)
      have hdn : doneL (adX (1 + (p : Int)) k).L = k := adL_done k (by omega)
      rw [hdn] at HD
      by_cases hr : 1 ≤ s - 1 ∧ s - 1 ≤ 16
      · obtain ⟨m, hm⟩ : ∃ m : Nat, s - 1 = (m : Int) + 1 := ⟨(s - 2).toNat, by omega⟩
        have hm16 : m < 16 := by omega
        rw [hm]
        have x1 : (1 : Int) ≤ (m : Int) + 1 := by omega
        have x2 : (m : Int) + 1 ≤ 16 := by omega
        have x4 : IntKind.i64.wrap ((k : Int) + (1 + (p : Int))) = (k : Int) + (1 + (p : Int)) := by rw [IntKind.wrap_i64]; omega
        by_cases hf : (m : Int) + 1 ≤ (k : Int) + (1 + (p : Int))
        · have hpl := adL_at (i := m) (j := k) hm16
          have HP := Lib.hid (r_pre (k := m) (c := 0) HR.out hpl rfl (by rw [hdn]; exact hf) (A := none) (B := 0) (b := []) (n := 0) (Has.nil _ _ _) rfl (by omega))
          have hd2 : doneL (((adX (1 + (p : Int)) k)).put m ⟨(Sx.new 4).pre [], none, if m < k then some ⟨0, 0, (m : Int) + 1, [], []⟩ else none⟩).L = k := by
            exact (doneL_set (p' := ⟨(Sx.new 4).pre [], none, if m < k then some ⟨0, 0, (m : Int) + 1, [], []⟩ else none⟩) hpl rfl).trans hdn
          have HD2 := Lib.hid hd2
          have HSet := Lib.hid (show (((adX (1 + (p : Int)) k)).put m ⟨(Sx.new 4).pre [], none, if m < k then some ⟨0, 0, (m : Int) + 1, [], []⟩ else none⟩).L[m]? = some ⟨(Sx.new 4).pre [], none, if m < k then some ⟨0, 0, (m : Int) + 1, [], []⟩ else none⟩ from by
            show ((adL k).set m _)[m]? = _
            rw [List.getElem?_set, if_pos rfl, if_pos (by unfold adL; simp; omega)])
          have HF := Lib.hid hf
          clear hpl hd2 hr hk hlt hlt' hm hdn
          go_wp2_with fail
          refine HD.out.mono ?_
          rintro e wd ⟨rfl, rfl⟩
          go_wp2_with fail
          refine HP.out.mono ?_
          rintro e w2 ⟨rfl, hr2, -⟩
          have HR2 := Lib.hid hr2
          have HP2 := Lib.hid (r_pre (k := m) (c := 0) HR2.out HSet.out rfl (by rw [HD2.out]; exact HF.out) (A := none) (B := 0) (b := []) (n := 0) (Has.nil _ _ _) rfl (by omega))
          clear hr2 HP
          go_wp2_with fail
          refine HP2.out.mono ?_
          rintro e w3 ⟨rfl, hr3, -⟩
          have HR3 := Lib.hid hr3
          clear hr3 HP2
          go_wp2_with fail
          refine (wakes15_any _).mono ?_
          rintro e w4 ⟨rfl, hb4⟩
          have HB4 := Lib.hid (HR3.out.low.trans (hb4.mono HR3.out.low.size))
          clear hb4
          go_wp2_with fail
          go_ret
          exact ⟨rfl, HB4.out⟩
        · have HP := Lib.hid (fun (wz : World) (h : Ri w ib (adX (1 + (p : Int)) k) wz) => r_pre_far h (k := m) hm16 rfl (by rw [hdn]; show (k : Int) + (1 + (p : Int)) < _; omega) none 0 0)
          clear hr hk hlt hlt' hm hdn
          go_wp2_with fail
          refine HD.out.mono ?_
          rintro e wd ⟨rfl, rfl⟩
          go_wp2_with fail
          refine (HP.out _ HR.out).mono ?_
          rintro e w2 ⟨rfl, hb2⟩
          have HR2 := Lib.hid (HR.out.below hb2)
          clear hb2
          go_wp2_with fail
          refine (HP.out _ HR2.out).mono ?_
          rintro e w3 ⟨rfl, hb3⟩
          have HR3 := Lib.hid (HR2.out.below hb3)
          clear hb3
          go_wp2_with fail
          refine (wakes15_any _).mono ?_
          rintro e w4 ⟨rfl, hb4⟩
          have HB4 := Lib.hid (HR3.out.low.trans (hb4.mono HR3.out.low.size))
          clear hb4
          go_wp2_with fail
          go_ret
          exact ⟨rfl, HB4.out⟩
      · have HP := Lib.hid (fun (wz : World) (h : Ri w ib (adX (1 + (p : Int)) k) wz) => r_pre_no h (sq := s - 1) (Or.inr hr) none 0 0)
        obtain ⟨t, ht⟩ : ∃ t, s - 1 = t := ⟨_, rfl⟩
        rw [ht] at hr HP ⊢
        have q3 : -1 ≤ t ∧ t ≤ 17 := by omega
        by_cases h1 : 1 ≤ t
        · have h2 : ¬ t ≤ 16 := by omega
          clear hr hk hlt hlt' ht hdn
          go_wp2_with fail
          refine HD.out.mono ?_
          rintro e wd ⟨rfl, rfl⟩
          go_wp2_with fail
          refine (HP.out _ HR.out).mono ?_
          rintro e w2 ⟨rfl, hb2⟩
          have HR2 := Lib.hid (HR.out.below hb2)
          clear hb2
          go_wp2_with fail
          refine (HP.out _ HR2.out).mono ?_
          rintro e w3 ⟨rfl, hb3⟩
          have HR3 := Lib.hid (HR2.out.below hb3)
          clear hb3
          go_wp2_with fail
          refine (wakes15_any _).mono ?_
          rintro e w4 ⟨rfl, hb4⟩
          have HB4 := Lib.hid (HR3.out.low.trans (hb4.mono HR3.out.low.size))
          clear hb4
          go_wp2_with fail
          go_ret
          exact ⟨rfl, HB4.out⟩
        · clear hr hk hlt hlt' ht hdn
          go_wp2_with fail
          refine HD.out.mono ?_
          rintro e wd ⟨rfl, rfl⟩
          go_wp2_with fail
          refine (HP.out _ HR.out).mono ?_
          rintro e w2 ⟨rfl, hb2⟩
          have HR2 := Lib.hid (HR.out.below hb2)
          clear hb2
          go_wp2_with fail
          refine (HP.out _ HR2.out).mono ?_
          rintro e w3 ⟨rfl, hb3⟩
          have HR3 := Lib.hid (HR2.out.below hb3)
          clear hb3
          go_wp2_with fail
          refine (wakes15_any _).mono ?_
          rintro e w4 ⟨rfl, hb4⟩
          have HB4 := Lib.hid (HR3.out.low.trans (hb4.mono HR3.out.low.size))
          clear hb4
          go_wp2_with fail
          go_ret
          exact ⟨rfl, HB4.out⟩
end Go.Proofs.Ytpdmflhbmimhgaa
