/- Votes to leave views and the document's, side by side: right. -/
import Derived.Test.YtfbipebijelfjaaChDo
namespace Go.Proofs.Ytfbipebijelfjaa
open Go.RowKit
set_option linter.unusedSimpArgs false

section
variable {w w' : World} {vb g c cb : Nat} {f : Int} {L : List Cw}
/-- The state of right's loops. -/
structure Ri16 (w : World) (vb g c cb : Nat) (f : Int) (L : List Cw) (wr : World) : Prop where
  j : Jc wr vb g c cb f L
  low : Below w.heap.size w wr
theorem Ri16.below (h : Ri16 w vb g c cb f L w') {wz : World} (hb : Below w'.heap.size w' wz) : Ri16 w vb g c cb f L wz := ⟨h.j.below hb, h.low.trans (hb.mono h.low.size)⟩
theorem Ri16.drewN (h : Ri16 w vb g c cb f L w') (n : Nat) : Ri16 w vb g c cb f L (w'.drewN n) := h.below ⟨rfl, rfl, rfl, Nat.le_refl _, fun _ _ => rfl⟩
set_option maxHeartbeats 4000000 in
theorem cright_any (h : Jc w vb g c cb f L) :
    Calls Try.prog 17 #[.pointer (some ⟨vb, 0, none⟩), .pointer (some ⟨cb, 0, none⟩)] w fun e w' => e = .returned (.bool true) ∧ Below w.heap.size w w' := by
  have HR := Lib.hid (show Ri16 w vb g c cb f L w from ⟨h, Below.refl _ _⟩)
  obtain ⟨q, hq⟩ : ∃ q : Nat, (q : Int) = 2 * f + 1 := ⟨(2 * f + 1).toNat, by have := h.v.f1; omega⟩
  have HQ := Lib.hid hq
  have HN := Lib.hid (show L.length ≤ 13 ∧ q ≤ 9 from by have := h.v.n1; have := h.v.f4; omega)
  have HF := Lib.hid (And.intro h.v.f1 (And.intro h.v.f4 h.v.ok))
  clear h hq
  go_enter Try.func17, Try.ntmps17
  go_wp2_with fail
  go_loopw [5] (fun x wr => ∃ (i : Int), x = .int .i64 i ∧ -1 ≤ i ∧ i ≤ 14 ∧ Hid (Ri16 w vb g c cb f L wr)) (fun x _ => (14 - intOf x).toNat)
  case atStart => exact ⟨-1, rfl, by omega, by omega, HR⟩
  case round =>
    clear HR
    obtain ⟨i, rfl, hi0, hi1, HR⟩ := hrel
    by_cases hlt : i ≤ 13
    · have gi : decide (i ≤ 13) = true := decide_eq_true hlt
      have HV := Lib.hid (cview_any HR.out.j.v i)
      by_cases h0 : 0 ≤ i
      · obtain ⟨k, rfl⟩ := Int.eq_ofNat_of_zero_le h0
        have g0 : decide ((0 : Int) ≤ (k : Int)) = true := decide_eq_true h0
        by_cases h13 : k < 13
        · have g1 : decide ((k : Int) < 13) = true := decide_eq_true (by omega)
          have g2 : decide (k < 13) = true := decide_eq_true h13
          cases ha : atC L (k : Int) with
          | none =>
            rw [ha] at HV
            have HC := Lib.hid (fun (m : Nat) => show (wr.drewN m).cell? ⟨cb, 1 + k, none⟩ = some (.int .i64 (-1)) from by
              have := HR.out.j.d.cell (1 + k)
              rw [show (dqC f L)[1 + k]? = _ from dqG_v _ _ _ h13, vD_none ha] at this
              exact this)
            have HV2 := Lib.hid (show Calls Try.prog 20 #[.pointer (some ⟨vb, 0, none⟩), .int .i64 (k : Int)] wr fun e w' => e = .returned (.tuple #[.int .i64 0, .bool false]) ∧ ∃ n, w' = wr.drewN n from HV.out)
            clear ha HV
            go_wp2_with fail
            refine HV2.out.mono ?_
            rintro e w1 ⟨rfl, m, rfl⟩
            have hc := HC.out m
            have HR2 := Lib.hid (HR.out.drewN m)
            go_wp2_with fail
            go_roundw
            case rel => exact ⟨(k : Int) + 1, by go_num, by omega, by omega, HR2⟩
            case measure => simp [intOf]; omega
          | some p =>
            obtain ⟨pv, ps⟩ := p
            rw [ha] at HV
            have hp0 : 0 ≤ pv := by
              have h1 : k < L.length := by
                rcases Nat.lt_or_ge k L.length with h | h
                · exact h
                · rw [atC_out (by unfold inC; omega)] at ha; cases ha
              have h2 := atC_in (List.getElem?_eq_getElem h1)
              rw [ha] at h2
              exact (HF.out.2.2 (pv, ps) (h2 ▸ List.getElem_mem h1)).1
            have gp : decide (0 ≤ pv) = true := decide_eq_true hp0
            have gn : (pv != pv) = false := by simp
            have HC := Lib.hid (fun (m : Nat) => show (wr.drewN m).cell? ⟨cb, 1 + k, none⟩ = some (.int .i64 pv) from by
              have := HR.out.j.d.cell (1 + k)
              rw [show (dqC f L)[1 + k]? = _ from dqG_v _ _ _ h13, vD_some ha] at this
              exact this)
            have HV2 := Lib.hid (show Calls Try.prog 20 #[.pointer (some ⟨vb, 0, none⟩), .int .i64 (k : Int)] wr fun e w' => e = .returned (.tuple #[.int .i64 pv, .bool true]) ∧ ∃ n, w' = wr.drewN n from HV.out)
            clear ha HV hp0
            go_wp2_with fail
            refine HV2.out.mono ?_
            rintro e w1 ⟨rfl, m, rfl⟩
            have hc := HC.out m
            have HR2 := Lib.hid (HR.out.drewN m)
            go_wp2_with fail
            go_roundw
            case rel => exact ⟨(k : Int) + 1, by go_num, by omega, by omega, HR2⟩
            case measure => simp [intOf]; omega
        · have g1 : decide ((k : Int) < 13) = false := decide_eq_false (by omega)
          have g2 : decide (k < 13) = false := decide_eq_false h13
          rw [atC_out (L := L) (k := (k : Int)) (by unfold inC; have := HN.out.1; omega)] at HV
          have HV2 := Lib.hid (show Calls Try.prog 20 #[.pointer (some ⟨vb, 0, none⟩), .int .i64 (k : Int)] wr fun e w' => e = .returned (.tuple #[.int .i64 0, .bool false]) ∧ ∃ n, w' = wr.drewN n from HV.out)
          clear HV
          go_wp2_with fail
          refine HV2.out.mono ?_
          rintro e w1 ⟨rfl, m, rfl⟩
          have HR2 := Lib.hid (HR.out.drewN m)
          go_wp2_with fail
          go_roundw
          case rel => exact ⟨(k : Int) + 1, by go_num, by omega, by omega, HR2⟩
          case measure => simp [intOf]; omega
      · have g0 : decide (0 ≤ i) = false := decide_eq_false h0
        rw [atC_out (L := L) (k := i) (by unfold inC; omega)] at HV
        have HV2 := Lib.hid (show Calls Try.prog 20 #[.pointer (some ⟨vb, 0, none⟩), .int .i64 i] wr fun e w' => e = .returned (.tuple #[.int .i64 0, .bool false]) ∧ ∃ n, w' = wr.drewN n from HV.out)
        clear HV
        go_wp2_with fail
        refine HV2.out.mono ?_
        rintro e w1 ⟨rfl, m, rfl⟩
        have HR2 := Lib.hid (HR.out.drewN m)
        go_wp2_with fail
        go_roundw
        case rel => exact ⟨i + 1, by go_num, by omega, by omega, HR2⟩
        case measure => simp [intOf]; omega
    · have gi : decide (i ≤ 13) = false := decide_eq_false hlt
      clear hlt
      go_wp2_with fail
      go_loopw [9] (fun x wz => ∃ (b : Int), x = .int .i64 b ∧ -1 ≤ b ∧ b ≤ 13 ∧ Hid (Ri16 w vb g c cb f L wz)) (fun x _ => (13 - intOf x).toNat)
      case atStart => exact ⟨-1, rfl, by omega, by omega, HR⟩
      case round =>
        clear HR
        obtain ⟨b, rfl, hb0, hb1, HR⟩ := hrel
        by_cases hlt : b ≤ 12
        · have gb : decide (b ≤ 12) = true := decide_eq_true hlt
          have HE := Lib.hid (cenough_any HR.out.j.v b HQ.out)
          have HD := Lib.hid (fun (wz : World) (hz : Ri16 w vb g c cb f L wz) => denough_any hz.j.d HF.out.1 HF.out.2.1 HF.out.2.2 HN.out.1 b HQ.out)
          have HLv := Lib.hid (show (vtsC (enC L b q)).length ≤ 13 from by
            cases hr : enC L b q with
            | none => exact Nat.zero_le _
            | some v =>
              have h1 := (enC_is hr).2.2
              have h2 : (vtsC (some v)).length = q := h1
              have := HN.out.2
              omega)
          obtain ⟨r, hr⟩ : ∃ y, enC L b q = y := ⟨_, rfl⟩
          rw [hr] at HE HD HLv
          obtain ⟨l, hl⟩ : ∃ y, vtsC r = y := ⟨_, rfl⟩
          rw [hl] at HE HD HLv
          obtain ⟨o, ho⟩ : ∃ y, r.isSome = y := ⟨_, rfl⟩
          rw [ho] at HE HD
          obtain ⟨n, hn⟩ : ∃ y, l.length = y := ⟨_, rfl⟩
          rw [hn] at HE HD HLv
          have HNl := Lib.hid hn
          have go : (o != o) = false := by simp
          clear hr hl ho hn
          go_wp2_with fail
          refine HE.out.mono ?_
          rintro e w2 ⟨u, rfl, ho2, hb2⟩
          obtain ⟨A2, c2, rfl, -, -⟩ := own_slice ho2
          have HO2 := Lib.hid ho2
          have HR2 := Lib.hid (HR.out.below hb2)
          clear ho2 hb2
          go_wp2_with fail
          refine (HD.out _ HR2.out).mono ?_
          rintro e w3 ⟨u, rfl, ho3, hb3⟩
          obtain ⟨A3, c3, rfl, -, -⟩ := own_slice ho3
          have HS := Lib.hid (same_votes_is (A := A2) (A' := A3) (c := c2) (c' := c3) (la := n) (lb := n) (zs := l) (ys := l) (r := true) HNl.out HNl.out (by have := HLv.out; omega) (decide_eq_true rfl) w3 (has_rows (below_own HO2.out hb3 (Nat.le_refl _))) (has_rows ho3))
          have HR3 := Lib.hid (HR2.out.below hb3)
          clear ho3 hb3
          go_wp2_with fail
          refine HS.out.mono ?_
          rintro e w4 ⟨rfl, m, rfl⟩
          have HR4 := Lib.hid (HR3.out.drewN m)
          go_wp2_with fail
          go_roundw
          case rel => exact ⟨b + 1, by go_num, by omega, by omega, HR4⟩
          case measure => simp [intOf]; omega
        · have gb : decide (b ≤ 12) = false := decide_eq_false hlt
          go_wp2_with fail
          go_ret
          exact ⟨rfl, HR.out.low⟩
end
end Go.Proofs.Ytfbipebijelfjaa
