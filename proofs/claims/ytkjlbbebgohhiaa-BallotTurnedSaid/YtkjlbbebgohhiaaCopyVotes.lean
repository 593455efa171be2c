/- The contract of keep.Copy at votes. -/
import Derived.Test.YtkjlbbebgohhiaaRow4
namespace Go.Proofs.Ytkjlbbebgohhiaa
open Go.RowKit

/-- keep.Copy at votes: a row of the call's own with the same votes. -/
theorem copy_votes (A : Option Addr) (c n B : Nat) (l : List Vt) (w : World) (hl : l.length = n) (hm : n ≤ 1048576) (hh : Has w B A (voteCells l)) (hn : A = none → n = 0 ∧ c = 0) :
    Calls Try.prog 19 #[.slice A n c] w fun e w' => ∃ v, e = .returned v ∧ w'.ownsRow w.heap.size 38 2 v n (voteCells l) ∧ Below w.heap.size w w' := by
  obtain ⟨i0, hi0, hx0, hx1, hx2⟩ := info_parts info_vote
  cases A with
  | none =>
    obtain ⟨rfl, rfl⟩ := hn rfl
    obtain rfl : l = [] := List.eq_nil_of_length_eq_zero hl
    go_enter Try.func19, Try.ntmps19
    go_wp2_with (at_builtin; refine wpList_append_own_none rfl _ _ 34 rfl w.heap.size 38 i0 2 Try.underlying34 hi0 _ 0 [] rfl (World.ownsRow_nil _ _ _ _) rfl ?_)
    go_wp2
    go_ret
    exact ⟨_, rfl, World.ownsRow_nil _ _ _ _, Below.refl _ _⟩
  | some ad =>
    have HH := Lib.hid hh
    have HL := Lib.hid hl
    have HC := Lib.hid (show ∀ j u, (voteCells l)[j]? = some u → w.cell? (ad.add j) = some u from fun j u hj => by
      obtain ⟨ad', he, _, hc⟩ := HH.out j u hj
      cases he
      exact hc)
    clear hh hn hl
    go_enter Try.func19, Try.ntmps19
    go_wp2_with (at_builtin; refine wpList_append_own _ rfl _ _ 34 rfl w.heap.size 38 i0 _ 2 16 Try.underlying34 hi0 hx0 hx1 hx2 rfl (by decide) _ 0 [] rfl (World.ownsRow_nil _ _ _ _) ad n c (voteCells l) rfl (by rw [voteCells_len, HL.out]) HC.out (voteCells_one l) (by unfold maxLen; omega) (by omega) (Nat.le_refl _) ?_)
    intro v w1 ho hg _
    go_wp2
    go_ret
    exact ⟨v, rfl, by simpa using ho, (Below.refl _ _).grown hg (Nat.le_refl _) (fun k hk => by cases hk)⟩
end Go.Proofs.Ytkjlbbebgohhiaa
