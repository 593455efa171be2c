/- The walk of BallotSizes: it returns true for any three ints. -/
import Derived.Test.YtallcmknajigfaaBallotNums
namespace Go.Proofs.Ytallcmknajigfaa
open Go.RowKit

theorem nodesS_fit (f : Int) : -1000 ≤ nodesS f ∧ nodesS f ≤ 1000 := by unfold nodesS; split <;> omega
theorem mod_four (f : Int) : ∃ q : Nat, f % 4 = q ∧ q < 4 := ⟨(f % 4).toNat, by omega, by omega⟩
set_option maxHeartbeats 2000000 in
theorem ballotSizes_walk (f v i : Int) (w : World) (w0 : (Lit.int .i64 f).wf = true) (_w1 : (Lit.int .i64 v).wf = true) (_w2 : (Lit.int .i64 i).wf = true) :
    Calls Try.prog 5 #[.int .i64 f, .int .i64 v, .int .i64 i] w fun e w' => e = .returned (.bool true) ∧ Below w.heap.size w w' := by
  have HF := Lib.hid w0
  obtain ⟨a, ha⟩ : ∃ a, nodesS f = a := ⟨_, rfl⟩
  obtain ⟨b, hb⟩ : ∃ b, quorumS f = b := ⟨_, rfl⟩
  obtain ⟨c, hc⟩ : ∃ c, weakS f = c := ⟨_, rfl⟩
  obtain ⟨d, hd⟩ : ∃ d, primaryS f v i = d := ⟨_, rfl⟩
  have H1 := Lib.hid (bnodes_any f)
  have H2 := Lib.hid (rnodes_any f)
  have H3 := Lib.hid (bquorum_any f)
  have H4 := Lib.hid (rquorum_any f)
  have H5 := Lib.hid (bweak_any f)
  have H6 := Lib.hid (rweak_any f)
  have H7 := Lib.hid (bprimary_any f v i)
  have H8 := Lib.hid (rprimary_any f v i)
  rw [ha] at H1 H2
  rw [hb] at H3 H4
  rw [hc] at H5 H6
  rw [hd] at H7 H8
  obtain ⟨q, hq, hq4⟩ := mod_four f
  have HW := Lib.hid (fun w => within_any f 4 (by omega) (by omega) (wf_i64 w0).1 (wf_i64 w0).2 w)
  rw [hq] at HW
  have G1 := Lib.hid (bnodes_any (1 + (q : Int)))
  have G2 := Lib.hid (bquorum_any (1 + (q : Int)))
  have G3 := Lib.hid (bweak_any (1 + (q : Int)))
  rw [nodesS_in (by omega) (by omega)] at G1
  rw [quorumS_in (by omega) (by omega)] at G2
  rw [weakS_in (by omega) (by omega)] at G3
  clear ha hb hc hd hq w0 _w1 _w2
  go_enter Try.func5, Try.ntmps5
  go_wp2_with fail
  refine (H1.out _).mono ?_
  rintro e w' ⟨rfl, rfl⟩
  go_wp2_with fail
  refine (H2.out _).mono ?_
  rintro e w' ⟨rfl, rfl⟩
  go_wp2_with fail
  refine (H3.out _).mono ?_
  rintro e w' ⟨rfl, rfl⟩
  go_wp2_with fail
  refine (H4.out _).mono ?_
  rintro e w' ⟨rfl, rfl⟩
  go_wp2_with fail
  refine (H5.out _).mono ?_
  rintro e w' ⟨rfl, rfl⟩
  go_wp2_with fail
  refine (H6.out _).mono ?_
  rintro e w' ⟨rfl, rfl⟩
  go_wp2_with fail
  refine (H7.out _).mono ?_
  rintro e w' ⟨rfl, rfl⟩
  go_wp2_with fail
  refine (H8.out _).mono ?_
  rintro e w' ⟨rfl, rfl⟩
  go_wp2_with fail
  refine (HW.out _).mono ?_
  rintro e w' ⟨rfl, rfl⟩
  go_wp2_with fail
  refine (G2.out _).mono ?_
  rintro e w' ⟨rfl, rfl⟩
  go_wp2_with fail
  refine (G1.out _).mono ?_
  rintro e w' ⟨rfl, rfl⟩
  go_wp2_with fail
  refine (G3.out _).mono ?_
  rintro e w' ⟨rfl, rfl⟩
  go_wp2_with fail
  refine (G1.out _).mono ?_
  rintro e w' ⟨rfl, rfl⟩
  go_wp2_with fail
  refine (G2.out _).mono ?_
  rintro e w' ⟨rfl, rfl⟩
  go_wp2_with fail
  refine (G3.out _).mono ?_
  rintro e w' ⟨rfl, rfl⟩
  go_wp2_with fail
  refine (wakesB_any _).mono ?_
  rintro e w' ⟨rfl, rfl⟩
  go_wp2_with fail
  go_ret
  exact ⟨rfl, Below.refl _ _⟩
end Go.Proofs.Ytallcmknajigfaa
