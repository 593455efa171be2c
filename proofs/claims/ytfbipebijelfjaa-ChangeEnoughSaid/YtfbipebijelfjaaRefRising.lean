/- The document's own rising rows. -/
import Derived.Test.YtfbipebijelfjaaRefBallot
namespace Go.Proofs.Ytfbipebijelfjaa
open Go.RowKit

/-- Nodes that rise above a last one, below N. -/
def risesF (N : Int) : Int → List Vt → Bool
  | _, [] => true
  | last, v :: l => decide (last < v.nd ∧ v.nd < N) && risesF N v.nd l
def risingS (l : List Vt) (f : Int) : Bool := decide ((1 ≤ f ∧ f ≤ 4) ∧ (l.length : Int) = 2 * f + 1) && risesF (3 * f + 1) (-1) l
theorem rises_no {N last : Int} {v : Vt} {l r : List Vt} {k : Nat} (hd : l.drop k = v :: r) (h : ¬ (last < v.nd ∧ v.nd < N)) : risesF N last (l.drop k) = false := by
  rw [hd]; unfold risesF; rw [decide_eq_false h]; rfl
theorem rises_yes {N last : Int} {v : Vt} {l r : List Vt} {k : Nat} (hd : l.drop k = v :: r) (hr : l.drop (k + 1) = r) (h : last < v.nd ∧ v.nd < N) : risesF N last (l.drop k) = risesF N v.nd (l.drop (k + 1)) := by
  rw [hd, hr]
  show (decide (last < v.nd ∧ v.nd < N) && risesF N v.nd r) = _
  rw [decide_eq_true h]; rfl
theorem rising_out {l : List Vt} {f : Int} (h : f < 1 ∨ 4 < f ∨ (l.length : Int) ≠ 2 * f + 1) : risingS l f = false := by
  unfold risingS; rw [decide_eq_false (by omega)]; rfl
theorem rising_in {l : List Vt} {f : Int} (h1 : 1 ≤ f) (h2 : f ≤ 4) (h : (l.length : Int) = 2 * f + 1) : risingS l f = risesF (3 * f + 1) (-1) l := by
  unfold risingS; rw [decide_eq_true ⟨⟨h1, h2⟩, h⟩]; rfl

set_option maxHeartbeats 2000000 in
theorem rrising_any {w : World} {A : Option Addr} {n c B : Nat} {l : List Vt} (hh : Has w B A (voteCells l)) (hn : l.length = n) (hm : n ≤ maxLen) (f : Int) :
    Calls Try.prog 19 #[.slice A n c, .int .i64 f] w fun e w' => e = .returned (.bool (risingS l f)) ∧ ∃ m, w' = w.drewN m := by
  have HM := Lib.hid hm
  clear hm
  by_cases h1 : f < 1 ∨ 4 < f
  · rw [rising_out (by omega)]
    have HN := Lib.hid (rnodes_any f)
    rw [nodesS_out h1] at HN
    clear h1 hn
    go_enter Try.func19, Try.ntmps19
    go_wp2_with fail
    refine (HN.out _).mono ?_
    rintro e w' ⟨rfl, rfl⟩
    go_wp2_with fail
    go_ret
    exact ⟨rfl, 0, rfl⟩
  · have h2 : 1 ≤ f := by omega
    have h3 : f ≤ 4 := by omega
    have HN := Lib.hid (rnodes_any f)
    have HQ := Lib.hid (rquorum_any f)
    rw [nodesS_in h2 h3] at HN
    rw [quorumS_in h2 h3] at HQ
    have hp : ¬ (3 * f + 1 = 0) := by omega
    clear h1
    by_cases hl : (n : Int) = 2 * f + 1
    · have HR := Lib.hid (rising_in (l := l) h2 h3 (by rw [hn]; exact hl))
      have HH := Lib.hid hh
      have HL := Lib.hid hn
      have hl9 : n ≤ 9 := by omega
      clear hh hn
      go_enter Try.func19, Try.ntmps19
      go_wp2_with fail
      refine (HN.out _).mono ?_
      rintro e w' ⟨rfl, rfl⟩
      go_wp2_with fail
      refine (HQ.out _).mono ?_
      rintro e w' ⟨rfl, rfl⟩
      go_wp2_with fail
      go_loopw [5] (fun x wr => ∃ (k m : Nat) (last : Int), x = .int .i64 k ∧ k ≤ n ∧ Hid (wr = w.drewN m) ∧ Hid (risingS l f = risesF (3 * f + 1) last (l.drop k)) ∧ Hid ((k = 0 ∧ last = -1) ∨ (0 < k ∧ 0 ≤ last ∧ ∃ v, l[k - 1]? = some v ∧ v.nd = last))) (fun x _ => n - (intOf x).toNat)
      case atStart => exact ⟨0, 0, -1, rfl, Nat.zero_le _, rfl, HR.out, Or.inl ⟨rfl, rfl⟩⟩
      case round =>
        obtain ⟨k, m, last, rfl, hk, HW, HS, HP⟩ := hrel
        by_cases hlt : k < n
        · have hkl : k < l.length := by rw [HL.out]; exact hlt
          have hHr : Has wr B A (voteCells l) := by rw [HW.out]; exact HH.out.drewN m
          obtain ⟨ad, rfl, _, d0, d1⟩ := vote_at hHr hkl
          obtain ⟨v, hv⟩ : ∃ v, l[k] = v := ⟨_, rfl⟩
          rw [hv] at d0
          have HDr := Lib.hid (show l.drop k = v :: l.drop (k + 1) by rw [← hv]; exact List.drop_eq_getElem_cons hkl)
          have HNq := Lib.hid (fun q => (HN.out (wr.drewN q)).mono (R' := fun e w' => e = .returned (.int .i64 (3 * f + 1)) ∧ w' = wr.drewN q) (fun e w' he => ⟨he.1, he.2.symm⟩))
          have HV := Lib.hid (show l[k]? = some v by rw [List.getElem?_eq_getElem hkl, hv])
          clear hv d1 hkl
          by_cases c1 : v.nd < 0
          · have HF := Lib.hid (show risingS l f = false by rw [HS.out]; exact rises_no HDr.out (by rcases HP.out with ⟨_, h⟩ | ⟨_, h, _⟩ <;> omega))
            clear hHr
            go_wp2_with fail
            go_quiet ((go_at_call 9; exact Calls.quiet_of_same (HNq.out _)))
            go_wp2_with fail
            go_ret
            rw [HF.out]
            exact ⟨rfl, _, by rw [HW.out, World.drewN_drewN]⟩
          · have t1 : decide (v.nd < 0) = false := decide_eq_false c1
            by_cases c2 : 3 * f + 1 ≤ v.nd
            · have HF := Lib.hid (show risingS l f = false by rw [HS.out]; exact rises_no HDr.out (by omega))
              clear hHr c1
              go_wp2_with fail
              go_quiet ((go_at_call 9; exact Calls.quiet_of_same (HNq.out _)))
              go_wp2_with fail
              go_ret
              rw [HF.out]
              exact ⟨rfl, _, by rw [HW.out, World.drewN_drewN]⟩
            · have t2 : decide (3 * f + 1 ≤ v.nd) = false := decide_eq_false c2
              by_cases c3 : k = 0
              · have tk : decide (0 < k) = false := decide_eq_false (by omega)
                have HX := Lib.hid (show risingS l f = risesF (3 * f + 1) v.nd (l.drop (k + 1)) by rw [HS.out]; exact rises_yes HDr.out rfl (by rcases HP.out with ⟨_, h⟩ | ⟨h, _⟩ <;> omega))
                have HP2 := Lib.hid (show (0 : Int) ≤ v.nd by omega)
                clear hHr c1 c2 c3
                go_wp2_with fail
                go_quiet ((go_at_call 9; exact Calls.quiet_of_same (HNq.out _)))
                go_wp2_with fail
                go_roundw
                case rel => exact ⟨k + 1, m + nq, v.nd, by go_num, by omega, (show _ = _ by rw [HW.out, World.drewN_drewN]), HX.out, Or.inr ⟨by omega, HP2.out, v, HV.out, rfl⟩⟩
                case measure => simp [intOf]; omega
              · have hk0 : 0 < k := by omega
                obtain ⟨pv, hpv, hpl⟩ : ∃ v, l[k - 1]? = some v ∧ v.nd = last := by
                  rcases HP.out with ⟨h, _⟩ | ⟨_, _, h⟩
                  · omega
                  · exact h
                have hlast : 0 ≤ last := by rcases HP.out with ⟨h, _⟩ | ⟨_, h, _⟩ <;> omega
                obtain ⟨m1, hm1⟩ : ∃ m1, k - 1 = m1 := ⟨_, rfl⟩
                rw [hm1] at hpv
                have hm2 : (k : Int) - 1 = (m1 : Int) := by omega
                have hm3 : m1 < n := by omega
                obtain ⟨ad', he, _, p0, _⟩ := vote_at hHr (k := m1) (by rw [HL.out]; exact hm3)
                cases he
                rw [show l[m1]'(by rw [HL.out]; exact hm3) = pv from (List.getElem?_eq_some_iff.1 hpv).2, hpl] at p0
                have tk : decide (0 < (k : Int)) = true := decide_eq_true (by omega)
                clear hpl hpv hm1
                by_cases c4 : v.nd ≤ last
                · have HF := Lib.hid (show risingS l f = false by rw [HS.out]; exact rises_no HDr.out (by omega))
                  clear hHr c1 c2 c3
                  go_wp2_with fail
                  go_quiet ((go_at_call 9; exact Calls.quiet_of_same (HNq.out _)))
                  go_wp2_with fail
                  go_ret
                  rw [HF.out]
                  exact ⟨rfl, _, by rw [HW.out, World.drewN_drewN]⟩
                · have HX := Lib.hid (show risingS l f = risesF (3 * f + 1) v.nd (l.drop (k + 1)) by rw [HS.out]; exact rises_yes HDr.out rfl (by omega))
                  have HP2 := Lib.hid (show (0 : Int) ≤ v.nd by omega)
                  have t4 : decide (v.nd ≤ last) = false := decide_eq_false c4
                  clear hHr c1 c2 c3 c4
                  go_wp2_with fail
                  go_quiet ((go_at_call 9; exact Calls.quiet_of_same (HNq.out _)))
                  go_wp2_with fail
                  go_roundw
                  case rel => exact ⟨k + 1, m + nq, v.nd, by go_num, by omega, (show _ = _ by rw [HW.out, World.drewN_drewN]), HX.out, Or.inr ⟨by omega, HP2.out, v, HV.out, rfl⟩⟩
                  case measure => simp [intOf]; omega
        · have HF := Lib.hid (show risingS l f = true by rw [HS.out, List.drop_eq_nil_of_le (by rw [HL.out]; omega)]; rfl)
          go_wp2_with fail
          go_ret
          rw [HF.out]
          exact ⟨rfl, m, HW.out⟩
    · rw [rising_out (by rw [hn]; omega)]
      have t0 : ((n : Int) != 2 * f + 1) = true := by simpa using hl
      clear hn hh hl
      go_enter Try.func19, Try.ntmps19
      go_wp2_with fail
      refine (HN.out _).mono ?_
      rintro e w' ⟨rfl, rfl⟩
      go_wp2_with fail
      refine (HQ.out _).mono ?_
      rintro e w' ⟨rfl, rfl⟩
      go_wp2_with fail
      go_ret
      exact ⟨rfl, 0, rfl⟩
end Go.Proofs.Ytfbipebijelfjaa
