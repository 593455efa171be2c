/- The walk of BallotRises: it returns true for any votes and any f. (Asks for Rising's contract as RowLaws.) -/
import Derived.Test.YtkjlbbebgohhiaaComm4Walk
import Derived.Test.YtkjlbbebgohhiaaRefRising
namespace Go.Proofs.Ytkjlbbebgohhiaa
open Go.RowKit

theorem ballotRises_walk (S : RowLaws) (A : Option Addr) (c : Nat) (l : List Vt) (f : Int) (w : World) (w0 : IsVotes w A l c) (_w1 : (Lit.int .i64 f).wf = true) :
    Calls Try.prog 8 #[.slice A l.length c, .int .i64 f] w fun e w' => e = .returned (.bool true) ∧ Below w.heap.size w w' := by
  obtain ⟨r, hr⟩ : ∃ r, risingS l f = r := ⟨_, rfl⟩
  obtain ⟨n, hn⟩ : ∃ n, l.length = n := ⟨_, rfl⟩
  have hm : n ≤ maxLen := hn ▸ Nat.le_trans w0.le w0.most
  have H1 := Lib.hid (S.rising (c := c) w0.has hn hm f)
  have HH := Lib.hid w0.has
  have HN := Lib.hid hn
  have HM := Lib.hid hm
  have HR := Lib.hid hr
  rw [hr] at H1
  rw [hn]
  clear hr hn hm w0 S
  go_enter Try.func8, Try.ntmps8
  go_wp2_with fail
  refine H1.out.mono ?_
  rintro e w2 ⟨rfl, hb2⟩
  have HB := Lib.hid hb2
  have H2 := Lib.hid (rrising_any (HH.out.below hb2 (Nat.le_refl _)) HN.out HM.out f (c := c))
  rw [HR.out] at H2
  clear hb2
  go_wp2_with fail
  refine H2.out.mono ?_
  rintro e w3 ⟨rfl, m, rfl⟩
  go_wp2_with fail
  refine (wakesB_any _).mono ?_
  rintro e w' ⟨rfl, rfl⟩
  go_wp2_with fail
  go_ret
  exact ⟨rfl, HB.out.trans ⟨rfl, rfl, rfl, Nat.le_refl _, fun _ _ => rfl⟩⟩
end Go.Proofs.Ytkjlbbebgohhiaa
