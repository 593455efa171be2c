/- The walk of LedgerPrefixes. -/
import Derived.Test.YtpjcedilkahpiaaPrefix
import Derived.Test.YtpjcedilkahpiaaOpen12
import Derived.Test.YtpjcedilkahpiaaLedger2
namespace Go.Proofs.Ytpjcedilkahpiaa
open Go.RowKit
set_option linter.unusedSimpArgs false

set_option maxRecDepth 100000 in
set_option maxHeartbeats 4000000 in
theorem ledgerPrefixes_walk (A : Option Addr) (c : Nat) (a : List En) (A' : Option Addr) (c' : Nat) (b : List En) (q : Int) (w : World) (w0 : IsEnts w A a c) (w1 : IsEnts w A' b c') (w2 : (Lit.int .i64 q).wf = true) :
    Calls Try.prog 7 #[.slice A a.length c, .slice A' b.length c', .int .i64 q] w fun e w' => e = .returned (.bool true) ∧ Below w.heap.size w w' := by
  have HA := Lib.hid w0
  have HB := Lib.hid w1
  obtain ⟨n, hn⟩ : ∃ n, a.length = n := ⟨_, rfl⟩
  obtain ⟨m, hm⟩ : ∃ n, b.length = n := ⟨_, rfl⟩
  rw [hn, hm]
  have HN := Lib.hid hn
  have HM := Lib.hid hm
  have HLe := Lib.hid (show n ≤ c ∧ m ≤ c' from ⟨hn ▸ w0.le, hm ▸ w1.le⟩)
  have hmax : c ≤ maxLen ∧ c' ≤ maxLen := ⟨w0.most, w1.most⟩
  have hn1 : n ≤ maxLen := by rw [← hn]; exact Nat.le_trans w0.le w0.most
  have hm1 : m ≤ maxLen := by rw [← hm]; exact Nat.le_trans w1.le w1.most
  have HWk := Lib.hid (fun w => wakes12_any w)
  by_cases h1 : n ≤ 60
  · by_cases h2 : m ≤ 60
    · have HW := Lib.hid (fun w => within_any q ((n : Int) + 1) (by omega) (by omega) (wf_i64 w2).1 (wf_i64 w2).2 w)
      have hk : 0 ≤ q % ((n : Int) + 1) ∧ q % ((n : Int) + 1) < (n : Int) + 1 := ⟨Int.emod_nonneg _ (by omega), Int.emod_lt_of_pos _ (by omega)⟩
      obtain ⟨k, hkk⟩ := Int.eq_ofNat_of_zero_le hk.1
      rw [hkk] at HW hk
      have HK := Lib.hid (show k ≤ n by omega)
      have hwr : wrap64 ((n : Int) + 1) = (n : Int) + 1 := IntWalk.wrap64_in _ ⟨by omega, by omega⟩
      have hw6 : IntKind.i64.wrap ((n : Int) + 1) = (n : Int) + 1 := IntWalk.i64_in _ ⟨by omega, by omega⟩
      have g1 : ¬ (60 : Int) < (n : Int) := by omega
      have g2 : ¬ (60 : Int) < (m : Int) := by omega
      have g3 : k ≤ c := by have := HLe.out; have := HK.out; omega
      have g4 : (k : Int) ≤ (c : Int) := by omega
      have g5 : (0 : Int) ≤ (k : Int) := by omega
      have hlk : (a.take k).length = k := by rw [List.length_take]; have := HK.out; have := HN.out; omega
      have P1 := Lib.hid (fun j => (pre_any (w := w.drewN j) (HA.out.has.drewN j) (HB.out.has.drewN j) HN.out HM.out HLe.out.1 HLe.out.2 (by omega) (by omega)))
      have P2 := Lib.hid (fun j => (rpre_any (w := w.drewN j) (c := c) (c' := c') (HA.out.has.drewN j) (HB.out.has.drewN j) HN.out HM.out (by omega)))
      have P3 := Lib.hid (fun j => (pre_any (w := w.drewN j) (HA.out.has.drewN j) ((HA.out.has.ents_take k).drewN j) HN.out hlk HLe.out.1 g3 (by omega) (by have := HK.out; omega)))
      have P4 := Lib.hid (fun j => (pre_any (w := w.drewN j) ((HA.out.has.ents_take k).drewN j) (HA.out.has.drewN j) hlk HN.out g3 HLe.out.1 (by have := HK.out; omega) (by omega)))
      have P5 := Lib.hid (fun j => (pre_any (w := w.drewN j) (HB.out.has.drewN j) (HA.out.has.drewN j) HM.out HN.out HLe.out.2 HLe.out.1 (by omega) (by omega)))
      rw [preS_take] at P3
      rw [preS_comm, preS_take] at P4
      rw [preS_comm] at P5
      obtain ⟨r, hr⟩ : ∃ r, preS a b = r := ⟨_, rfl⟩
      rw [hr] at P1 P2 P5
      clear w0 w1 w2 hn hm hmax hn1 hm1 hk hkk hr h1 h2 hlk
      go_enter Try.func7, Try.ntmps7
      go_wp2_with fail
      refine (HW.out _).mono ?_
      rintro e wv ⟨rfl, rfl⟩
      go_wp2_with fail
      refine (P1.out 0).mono ?_
      rintro e wv ⟨rfl, j, hj⟩
      obtain ⟨i1, hi⟩ : ∃ i, wv = w.drewN i := ⟨_, hj.trans (World.drewN_drewN _ _ _)⟩
      subst hi
      clear hj
      go_wp2_with fail
      refine (P2.out i1).mono ?_
      rintro e wv ⟨rfl, j, hj⟩
      obtain ⟨i2, hi⟩ : ∃ i, wv = w.drewN i := ⟨_, hj.trans (World.drewN_drewN _ _ _)⟩
      subst hi
      clear hj
      have gr : (r == r) = true := by simp
      go_wp2_with fail
      refine (P3.out i2).mono ?_
      rintro e wv ⟨rfl, j, hj⟩
      obtain ⟨i3, hi⟩ : ∃ i, wv = w.drewN i := ⟨_, hj.trans (World.drewN_drewN _ _ _)⟩
      subst hi
      clear hj
      go_wp2_with fail
      refine (P4.out i3).mono ?_
      rintro e wv ⟨rfl, j, hj⟩
      obtain ⟨i4, hi⟩ : ∃ i, wv = w.drewN i := ⟨_, hj.trans (World.drewN_drewN _ _ _)⟩
      subst hi
      clear hj
      go_wp2_with fail
      refine (P5.out i4).mono ?_
      rintro e wv ⟨rfl, j, hj⟩
      obtain ⟨i5, hi⟩ : ∃ i, wv = w.drewN i := ⟨_, hj.trans (World.drewN_drewN _ _ _)⟩
      subst hi
      clear hj
      go_wp2_with fail
      refine (P1.out i5).mono ?_
      rintro e wv ⟨rfl, j, hj⟩
      obtain ⟨i6, hi⟩ : ∃ i, wv = w.drewN i := ⟨_, hj.trans (World.drewN_drewN _ _ _)⟩
      subst hi
      clear hj
      go_wp2_with fail
      refine (HWk.out _).mono ?_
      rintro e wv ⟨rfl, hb⟩
      go_wp2_with fail
      go_ret
      exact ⟨rfl, (below_drewN (Below.refl w.heap.size w) _).trans hb⟩
    · have g1 : ¬ (60 : Int) < (n : Int) := by omega
      have g2 : (60 : Int) < (m : Int) := by omega
      clear w0 w1 w2 hn hm hmax
      go_enter Try.func7, Try.ntmps7
      go_wp2_with fail
      refine (HWk.out _).mono ?_
      rintro e wv ⟨rfl, hb⟩
      go_wp2_with fail
      go_ret
      exact ⟨rfl, hb⟩
  · have g1 : (60 : Int) < (n : Int) := by omega
    clear w0 w1 w2 hn hm hmax
    go_enter Try.func7, Try.ntmps7
    go_wp2_with fail
    refine (HWk.out _).mono ?_
    rintro e wv ⟨rfl, hb⟩
    go_wp2_with fail
    go_ret
    exact ⟨rfl, hb⟩
end Go.Proofs.Ytpjcedilkahpiaa
