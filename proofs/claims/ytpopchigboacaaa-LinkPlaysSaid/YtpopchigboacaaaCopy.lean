/- The contract of keep.Copy at bytes. -/
import Derived.Test.YtpopchigboacaaaSame
namespace Go.Proofs.Ytpopchigboacaaa
open Go.RowKit

/-- keep.Copy at bytes: a row of the call's own with the same bytes. -/
theorem copy_own (A : Option Addr) (c n B : Nat) (zs : List Int) (w : World) (hl : zs.length = n) (hm : zs.length ≤ 1048576) (hh : Has w B A (u8s zs)) (hn : A = none → c = 0) :
    Calls Try.prog 28 #[.slice A n c] w fun e w' => ∃ v, e = .returned v ∧ w'.ownsRow w.heap.size 5 1 v n (u8s zs) ∧ Below w.heap.size w w' := by
  obtain ⟨i0, hi, hz0, hz1, hz2⟩ := info_parts Try.info5
  subst hl
  have HH := Lib.hid hh
  have HN := Lib.hid hn
  clear hh hn
  go_enter Try.func28, Try.ntmps28
  go_wp2_with (at_builtin; refine wpList_app rfl _ _ 27 rfl w.heap.size 5 i0 (.int .u8 0) 1 Try.underlying27 hi hz0 hz1 hz2 rfl _ 0 [] rfl (World.ownsRow_nil _ _ _ _) B A _ c (u8s zs) rfl (u8s_len zs) HH.out HN.out (u8s_one zs) (by unfold maxLen; omega) (by omega) (Nat.le_refl _) ?_)
  intro v w1 ho _ hb
  go_wp2
  go_ret
  exact ⟨v, rfl, ho, hb⟩
end Go.Proofs.Ytpopchigboacaaa
