/- The contract of keep.Copy at requests. -/
import Derived.Test.YtcebnmhkbhhfiaaReqRow
import Derived.Test.YtcebnmhkbhhfiaaRow4
namespace Go.Proofs.Ytcebnmhkbhhfiaa
open Go.RowKit

/-- keep.Copy at requests: a row of the call's own with the same requests. -/
theorem mcopy_reqs (A : Option Addr) (c n B : Nat) (l : List Rq) (w : World) (hl : l.length = n) (hm : n ≤ 1048576) (hh : Has w B A (reqCells l)) (hn : A = none → c = 0) :
    Calls Try.prog 27 #[.slice A n c] w fun e w' => ∃ v, e = .returned v ∧ w'.ownsRow w.heap.size 71 6 v n (reqCells l) ∧ Below w.heap.size w w' := by
  obtain ⟨i0, hi0, hx0, hx1, hx2⟩ := info_parts info_req
  have hL : (reqCells l).length = n * 6 := by rw [reqCells_len, hl]
  have h6 := reqCells_one l
  go_enter Try.func27, Try.ntmps27
  go_wp2_with (at_builtin; refine wpList_apps rfl _ _ 29 rfl w.heap.size 71 i0 _ 6 48 Try.underlying29 hi0 hx0 hx1 hx2 rfl (by decide) _ 0 [] rfl (World.ownsRow_nil _ _ _ _) B A n c (reqCells l) rfl hL hh hn h6 (by unfold maxLen; omega) (by omega) (Nat.le_refl _) ?_)
  intro v w1 ho hg _
  go_wp2
  go_ret
  exact ⟨v, rfl, by simpa using ho, (Below.refl _ _).grown hg (Nat.le_refl _) (fun k hk => by cases hk)⟩
end Go.Proofs.Ytcebnmhkbhhfiaa
