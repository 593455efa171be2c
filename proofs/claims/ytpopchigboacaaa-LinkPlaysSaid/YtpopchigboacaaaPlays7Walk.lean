/- The walk of LinkPlays. -/
import Derived.Test.YtpopchigboacaaaLinkStart
import Derived.Deep.DeepCutAuto
import Derived.Deep.CutBlock
namespace Go.Proofs.Ytpopchigboacaaa
open Go.RowKit Go.Sort
set_option linter.unusedSimpArgs false
set_option linter.unusedVariables false

set_option maxHeartbeats 4000000 in
set_option maxRecDepth 100000 in
theorem linkPlays_walk (a0 : Int) (a1 : Option Addr) (c1 : Nat) (z1 : List Ac) (w : World) (w0 : (Lit.int .i64 a0).wf = true) (w1 : IsActs w a1 z1 c1) :
    Calls Try.prog 5 #[.int .i64 a0, .slice a1 z1.length c1] w fun e w' => e = .returned (.bool true) ∧ Below w.heap.size w w' := by
  have HA := Lib.hid w1
  have HW0 := Lib.hid (fun w => within_any a0 20 (by omega) (by omega) (wf_i64 w0).1 (wf_i64 w0).2 w)
  clear w0 w1
  rcases (show (20 < a0 ∧ a0 ≤ 256) ∨ (1 ≤ a0 ∧ a0 ≤ 20) ∨ a0 < 1 ∨ 256 < a0 by omega) with ⟨h1, h2⟩ | ⟨h1, h2⟩ | h1 | h1
  · have hd1 : decide (20 < a0) = true := decide_eq_true h1
    have hd2 : decide (a0 ≤ 256) = true := decide_eq_true h2
    obtain ⟨r, hr⟩ : ∃ r, a0 % 20 = r := ⟨_, rfl⟩
    have hr0 : 0 ≤ r ∧ r < 20 := by omega
    rw [hr] at HW0
    obtain ⟨room, hro⟩ : ∃ room, 1 + r = room := ⟨_, rfl⟩
    have HRO := Lib.hid hro
    have HN := Lib.hid (qnew_any (room := room) (by omega) (by omega) w)
    have hd3 : decide (room < 1) = false := decide_eq_false (by omega)
    have hd4 : decide (256 < room) = false := decide_eq_false (by omega)
    clear hr hro h1 h2
    go_enter Try.func5, Try.ntmps5
    go_wp2_with fail
    refine (HW0.out _).mono ?_
    rintro e wa ⟨rfl, rfl⟩
    go_wp2_with fail
    rw [HRO.out]
    refine HN.out.mono ?_
    rintro e wb ⟨rfl, hq, hb⟩
    obtain ⟨qb, hqb⟩ : ∃ qb, w.heap.size = qb := ⟨_, rfl⟩
    have hj := Jo.start hq hb
    rw [hqb] at hj
    have HJ := Lib.hid hj
    have HQB := Lib.hid hqb
    clear hq hb hj
    rw [hqb]
    go_wp2_with fail
    obtain ⟨pb, hpb⟩ : ∃ pb, wb.heap.size = pb := ⟨_, rfl⟩
    rw [hpb] at HJ ⊢
    clear hpb
    go_loopw [8] (fun x wr => ∃ (k : Nat) (lost : Int) (L : List Bs), x = .int .i64 k ∧ k ≤ z1.length ∧ k ≤ 100 ∧ Hid (Jo (fun k => qb ≤ k) qb w wr qb pb room lost (L.map Bs.z) lost L) ∧ Hid (0 ≤ lost ∧ lost ≤ k)) (fun x _ => 100 - (intOf x).toNat)
    case atStart => exact ⟨0, 0, [], rfl, Nat.zero_le _, Nat.zero_le _, HJ.out, (⟨by omega, by omega⟩ : (0 : Int) ≤ 0 ∧ (0 : Int) ≤ ((0 : Nat) : Int))⟩
    case round =>
      obtain ⟨k, lost, L, rfl, hk, hk100, HJk, HLo⟩ := hrel
      by_cases hlt : k < z1.length ∧ k < 100
      · obtain ⟨hlt, hlt2⟩ := hlt
        have hJk : Jo (fun k => qb ≤ k) w.heap.size w wr qb pb room lost (L.map Bs.z) lost L := by rw [HQB.out]; exact HJk.out
        obtain ⟨ad, rfl, _, d0, d1, d2, d3⟩ := act_now hJk HA.out HA.out.has hlt
        have HX := Lib.hid (HA.out.came _ (List.getElem_mem hlt))
        obtain ⟨x, hx⟩ : ∃ x, z1[k] = x := ⟨_, rfl⟩
        rw [hx] at d0 d1 d2 d3 HX
        have HD := Lib.hid (act_does hJk HX.out HX.out.b.has (Nat.le_refl _) HLo.out.1 (by have := HLo.out.2; omega))
        clear hJk hx
        go_wp2_with fail
        refine HD.out.mono ?_
        rintro e w2 ⟨rfl, lost', L', hj2, hl0, hl1⟩
        rw [HQB.out] at hj2
        have HJ2 := Lib.hid hj2
        have HL2 := Lib.hid (show 0 ≤ lost' ∧ lost' ≤ ((k + 1 : Nat) : Int) from ⟨hl0, by have := HLo.out.2; omega⟩)
        clear hj2 hl0 hl1 d0 d1 d2 d3
        go_wp2_with fail
        go_roundw
        case rel => exact ⟨k + 1, lost', L', by go_num, by omega, by omega, HJ2.out, HL2.out⟩
        case measure => simp [intOf]; omega
      · have hor : (k < z1.length ∧ 100 ≤ k) ∨ z1.length ≤ k := by omega
        clear hlt
        have hBr : qb ≤ wr.heap.size := by have := HJk.out.sz; have := HQB.out; omega
        have HAl := Lib.hid (all_any7 HJk.out hBr)
        have HBr := Lib.hid hBr
        have HBl := Lib.hid (show Below qb w wr from HJk.out.tn.below (by rw [HQB.out]; exact Nat.le_refl _) (fun j hj h => by omega))
        clear hBr
        rcases hor with ⟨h1, h2⟩ | h1
        all_goals
          go_wp2_with fail
          refine HAl.out.mono ?_
          rintro e w5 ⟨rfl, hb5⟩
          have HB5 := Lib.hid (HBl.out.trans (hb5.mono HBr.out))
          have HS5 := Lib.hid (Nat.le_trans HBr.out hb5.size)
          clear hb5
          go_wp2_with fail
          refine (wakes7_any _).mono ?_
          rintro e w6 ⟨rfl, hb6⟩
          have HB6 := Lib.hid hb6
          clear hb6
          go_wp2_with fail
          go_ret
          exact ⟨rfl, by rw [HQB.out]; exact HB5.out.trans (HB6.out.mono HS5.out)⟩
  · have hd1 : decide (20 < a0) = false := decide_eq_false (by omega)
    obtain ⟨room, hro⟩ : ∃ room, a0 = room := ⟨_, rfl⟩
    subst hro
    have HN := Lib.hid (qnew_any (room := a0) (by omega) (by omega) w)
    have hd3 : decide (a0 < 1) = false := decide_eq_false (by omega)
    have hd4 : decide (256 < a0) = false := decide_eq_false (by omega)
    clear h1 h2
    go_enter Try.func5, Try.ntmps5
    go_wp2_with fail
    refine HN.out.mono ?_
    rintro e wb ⟨rfl, hq, hb⟩
    obtain ⟨qb, hqb⟩ : ∃ qb, w.heap.size = qb := ⟨_, rfl⟩
    have hj := Jo.start hq hb
    rw [hqb] at hj
    have HJ := Lib.hid hj
    have HQB := Lib.hid hqb
    clear hq hb hj
    rw [hqb]
    go_wp2_with fail
    obtain ⟨pb, hpb⟩ : ∃ pb, wb.heap.size = pb := ⟨_, rfl⟩
    rw [hpb] at HJ ⊢
    clear hpb
    go_loopw [8] (fun x wr => ∃ (k : Nat) (lost : Int) (L : List Bs), x = .int .i64 k ∧ k ≤ z1.length ∧ k ≤ 100 ∧ Hid (Jo (fun k => qb ≤ k) qb w wr qb pb a0 lost (L.map Bs.z) lost L) ∧ Hid (0 ≤ lost ∧ lost ≤ k)) (fun x _ => 100 - (intOf x).toNat)
    case atStart => exact ⟨0, 0, [], rfl, Nat.zero_le _, Nat.zero_le _, HJ.out, (⟨by omega, by omega⟩ : (0 : Int) ≤ 0 ∧ (0 : Int) ≤ ((0 : Nat) : Int))⟩
    case round =>
      obtain ⟨k, lost, L, rfl, hk, hk100, HJk, HLo⟩ := hrel
      by_cases hlt : k < z1.length ∧ k < 100
      · obtain ⟨hlt, hlt2⟩ := hlt
        have hJk : Jo (fun k => qb ≤ k) w.heap.size w wr qb pb a0 lost (L.map Bs.z) lost L := by rw [HQB.out]; exact HJk.out
        obtain ⟨ad, rfl, _, d0, d1, d2, d3⟩ := act_now hJk HA.out HA.out.has hlt
        have HX := Lib.hid (HA.out.came _ (List.getElem_mem hlt))
        obtain ⟨x, hx⟩ : ∃ x, z1[k] = x := ⟨_, rfl⟩
        rw [hx] at d0 d1 d2 d3 HX
        have HD := Lib.hid (act_does hJk HX.out HX.out.b.has (Nat.le_refl _) HLo.out.1 (by have := HLo.out.2; omega))
        clear hJk hx
        go_wp2_with fail
        refine HD.out.mono ?_
        rintro e w2 ⟨rfl, lost', L', hj2, hl0, hl1⟩
        rw [HQB.out] at hj2
        have HJ2 := Lib.hid hj2
        have HL2 := Lib.hid (show 0 ≤ lost' ∧ lost' ≤ ((k + 1 : Nat) : Int) from ⟨hl0, by have := HLo.out.2; omega⟩)
        clear hj2 hl0 hl1 d0 d1 d2 d3
        go_wp2_with fail
        go_roundw
        case rel => exact ⟨k + 1, lost', L', by go_num, by omega, by omega, HJ2.out, HL2.out⟩
        case measure => simp [intOf]; omega
      · have hor : (k < z1.length ∧ 100 ≤ k) ∨ z1.length ≤ k := by omega
        clear hlt
        have hBr : qb ≤ wr.heap.size := by have := HJk.out.sz; have := HQB.out; omega
        have HAl := Lib.hid (all_any7 HJk.out hBr)
        have HBr := Lib.hid hBr
        have HBl := Lib.hid (show Below qb w wr from HJk.out.tn.below (by rw [HQB.out]; exact Nat.le_refl _) (fun j hj h => by omega))
        clear hBr
        rcases hor with ⟨h1, h2⟩ | h1
        all_goals
          go_wp2_with fail
          refine HAl.out.mono ?_
          rintro e w5 ⟨rfl, hb5⟩
          have HB5 := Lib.hid (HBl.out.trans (hb5.mono HBr.out))
          have HS5 := Lib.hid (Nat.le_trans HBr.out hb5.size)
          clear hb5
          go_wp2_with fail
          refine (wakes7_any _).mono ?_
          rintro e w6 ⟨rfl, hb6⟩
          have HB6 := Lib.hid hb6
          clear hb6
          go_wp2_with fail
          go_ret
          exact ⟨rfl, by rw [HQB.out]; exact HB5.out.trans (HB6.out.mono HS5.out)⟩
  · have HN := Lib.hid (qnew_bad (room := a0) (Or.inl h1) w)
    have hd1 : decide (20 < a0) = false := decide_eq_false (by omega)
    have hd3 : decide (a0 < 1) = true := decide_eq_true h1
    clear h1
    go_enter Try.func5, Try.ntmps5
    go_wp2_with fail
    refine HN.out.mono ?_
    rintro e wb ⟨rfl, rfl⟩
    go_wp2_with fail
    refine (wakes7_any _).mono ?_
    rintro e w6 ⟨rfl, hb6⟩
    have HB6 := Lib.hid hb6
    clear hb6
    go_wp2_with fail
    go_ret
    exact ⟨rfl, HB6.out⟩
  · have HN := Lib.hid (qnew_bad (room := a0) (Or.inr h1) w)
    have hd1 : decide (20 < a0) = true := decide_eq_true (by omega)
    have hd2 : decide (a0 ≤ 256) = false := decide_eq_false (by omega)
    have hd3 : decide (a0 < 1) = false := decide_eq_false (by omega)
    have hd4 : decide (256 < a0) = true := decide_eq_true h1
    clear h1
    go_enter Try.func5, Try.ntmps5
    go_wp2_with fail
    refine HN.out.mono ?_
    rintro e wb ⟨rfl, rfl⟩
    go_wp2_with fail
    refine (wakes7_any _).mono ?_
    rintro e w6 ⟨rfl, hb6⟩
    have HB6 := Lib.hid hb6
    clear hb6
    go_wp2_with fail
    go_ret
    exact ⟨rfl, HB6.out⟩
end Go.Proofs.Ytpopchigboacaaa
