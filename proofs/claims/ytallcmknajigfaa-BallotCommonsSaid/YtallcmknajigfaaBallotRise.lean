/- The contract of ballot's Rising. -/
import Derived.Test.YtallcmknajigfaaBallotAll
import Derived.Test.YtallcmknajigfaaComm4Walk
namespace Go.Proofs.Ytallcmknajigfaa
open Go.RowKit

structure RiSt (w : World) (l : List Vt) (f : Int) (k : Nat) (last : Int) (wr : World) : Prop where
  low : Below w.heap.size w wr
  is : risingS l f = risesF (3 * f + 1) last (l.drop k)
theorem RiSt.box {w wr : World} {l : List Vt} {f last : Int} {k : Nat} (h : RiSt w l f k last wr) (cs : Array Value) (t : TypeId) : Below w.heap.size w (wr.alloc (.cells cs t)) := h.low.alloc h.low.size _

set_option maxHeartbeats 2000000 in
theorem rising_any {w : World} {B n c : Nat} {A : Option Addr} {l : List Vt} (hh : Has w B A (voteCells l)) (hn : l.length = n) (hm : n ≤ maxLen) (f : Int) :
    Calls Try.prog 24 #[.slice A n c, .int .i64 f] w fun e w' => e = .returned (.bool (risingS l f)) ∧ Below w.heap.size w w' := by
  have HM := Lib.hid hm
  clear hm
  by_cases h1 : f < 1 ∨ 4 < f
  · rw [rising_out (by omega)]
    have HA := Lib.hid (ballow_out h1)
    clear h1 hn
    go_enter Try.func24, Try.ntmps24
    go_wp2_with fail
    refine (HA.out _).mono ?_
    rintro e w' ⟨rfl, rfl⟩
    go_wp2_with fail
    go_ret
    exact ⟨rfl, Below.refl _ _⟩
  · have h2 : 1 ≤ f := by omega
    have h3 : f ≤ 4 := by omega
    have HA := Lib.hid (ballow_in h2 h3)
    have HN := Lib.hid (bnodes_any f)
    have HQ := Lib.hid (bquorum_any f)
    rw [nodesS_in h2 h3] at HN
    rw [quorumS_in h2 h3] at HQ
    clear h1
    by_cases hl : (n : Int) = 2 * f + 1
    · have HR := Lib.hid (rising_in (l := l) h2 h3 (by rw [hn]; exact hl))
      have HL := Lib.hid hn
      have hl9 : n ≤ 9 := by omega
      have t0 : ((n : Int) != 2 * f + 1) = false := by simp [hl]
      have HE := Lib.hid hl
      have HH := Lib.hid hh.tight
      clear hh hn hl
      go_enter Try.func24, Try.ntmps24
      go_wp2_with fail
      refine (HA.out _).mono ?_
      rintro e w' ⟨rfl, rfl⟩
      go_wp2_with fail
      refine (HQ.out _).mono ?_
      rintro e w' ⟨rfl, rfl⟩
      go_wp2_with fail
      go_loopw [5, 20] (fun x y wr => ∃ (k : Nat) (last : Int), y = .int .i64 k ∧ x = .int .i64 last ∧ k ≤ n ∧ -1 ≤ last ∧ Hid (RiSt w l f k last wr)) (fun _ y _ => n - (intOf y).toNat)
      case atStart => exact ⟨0, -1, rfl, rfl, Nat.zero_le _, by omega, Below.refl _ _, HR.out⟩
      case round =>
        obtain ⟨k, last, rfl, rfl, hk, hlast, HS⟩ := hrel
        by_cases hlt : k < n
        · have hkl : k < l.length := by rw [HL.out]; exact hlt
          obtain ⟨ad, rfl, _, d0, d1⟩ := vote_at (HH.out.below HS.out.low (Nat.le_refl _)) hkl
          obtain ⟨v, hv⟩ : ∃ v, l[k] = v := ⟨_, rfl⟩
          rw [hv] at d0 d1
          have HDr := Lib.hid (show l.drop k = v :: l.drop (k + 1) by rw [← hv]; exact List.drop_eq_getElem_cons hkl)
          clear hv hkl
          have HB := Lib.hid (HS.out.box #[.int .i64 v.nd, .int .i64 v.sg] 38)
          have HNq := Lib.hid (fun w => (HN.out w).mono (R' := fun e w' => e = .returned (.int .i64 (3 * f + 1)) ∧ w' = w) (fun e w' he => ⟨he.1, he.2.symm⟩))
          by_cases c1 : v.nd ≤ last
          · have HF := Lib.hid (show risingS l f = false by rw [HS.out.is]; exact rises_no HDr.out (by omega))
            have t1 : decide (v.nd ≤ last) = true := decide_eq_true c1
            clear c1
            go_wp2_with fail
            go_quiet ((go_at_call 16; exact Calls.quiet_of_same (HNq.out _)))
            go_wp2_with fail
            go_ret
            rw [HF.out]
            exact ⟨rfl, HB.out.trans ⟨rfl, rfl, rfl, Nat.le_refl _, fun _ _ => rfl⟩⟩
          · have t1 : decide (v.nd ≤ last) = false := decide_eq_false c1
            by_cases c2 : 3 * f + 1 ≤ v.nd
            · have HF := Lib.hid (show risingS l f = false by rw [HS.out.is]; exact rises_no HDr.out (by omega))
              clear c1
              go_wp2_with fail
              go_quiet ((go_at_call 16; exact Calls.quiet_of_same (HNq.out _)))
              go_wp2_with fail
              go_ret
              rw [HF.out]
              exact ⟨rfl, HB.out.trans ⟨rfl, rfl, rfl, Nat.le_refl _, fun _ _ => rfl⟩⟩
            · have HX := Lib.hid (show risingS l f = risesF (3 * f + 1) v.nd (l.drop (k + 1)) by rw [HS.out.is]; exact rises_yes HDr.out rfl (by omega))
              have hnd : -1 ≤ v.nd := by omega
              have t2 : decide (3 * f + 1 ≤ v.nd) = false := decide_eq_false c2
              clear c1 c2
              go_wp2_with fail
              go_quiet ((go_at_call 16; exact Calls.quiet_of_same (HNq.out _)))
              go_wp2_with fail
              go_roundw
              case rel => exact ⟨k + 1, v.nd, by go_num, rfl, by omega, hnd, HB.out.trans ⟨rfl, rfl, rfl, Nat.le_refl _, fun _ _ => rfl⟩, HX.out⟩
              case measure => simp [intOf]; omega
        · have HF := Lib.hid (show risingS l f = true by rw [HS.out.is, List.drop_eq_nil_of_le (by rw [HL.out]; omega)]; rfl)
          go_wp2_with fail
          go_ret
          rw [HF.out]
          exact ⟨rfl, HS.out.low⟩
    · rw [rising_out (by rw [hn]; omega)]
      have t0 : ((n : Int) != 2 * f + 1) = true := by simpa using hl
      clear hn hh hl
      go_enter Try.func24, Try.ntmps24
      go_wp2_with fail
      refine (HA.out _).mono ?_
      rintro e w' ⟨rfl, rfl⟩
      go_wp2_with fail
      refine (HQ.out _).mono ?_
      rintro e w' ⟨rfl, rfl⟩
      go_wp2_with fail
      go_ret
      exact ⟨rfl, Below.refl _ _⟩
end Go.Proofs.Ytallcmknajigfaa
