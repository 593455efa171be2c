/- The contract of slices.Clone at requests. -/
import Derived.Test.YtcebnmhkbhhfiaaRefOrder
import Derived.Lib.SliceRun
namespace Go.Proofs.Ytcebnmhkbhhfiaa
open Go.RowKit

set_option maxHeartbeats 400000 in
set_option maxRecDepth 100000 in
theorem mq_clone {A : Option Addr} {c n B : Nat} {zs : List Rq} {w : World} (h1 : Has w B A (reqCells zs)) (hn : zs.length = n) (hm : n ≤ 1000000) :
    Calls Try.prog 68 #[.slice A n c] w fun e w' => ∃ v, e = .returned v ∧ w'.ownsRow w.heap.size 71 6 v n (reqCells zs) ∧ Below w.heap.size w w' := by
  have hq := fun (w : World) => Lib.run_eql_slice_nil w 29 71 A n c 0 0 Try.underlying29
  cases A with
  | none =>
    have hz : zs = [] := by
      cases zs with
      | nil => rfl
      | cons z r =>
        obtain ⟨_, hA, _⟩ := h1 0 _ (show (reqCells (z :: r))[0]? = some (.int .i64 z.cl) from rfl)
        cases hA
    subst hz
    have hn0 : n = 0 := by simpa using hn.symm
    subst hn0
    go_enter Try.func68, Try.ntmps68
    go_wp2
    go_ret
    exact ⟨_, rfl, World.ownsRow_nil _ _ _ _, Below.refl _ _⟩
  | some ad =>
    obtain ⟨i0, hi0, hx0, hx1, hx2⟩ := info_parts info_req
    have hL : (reqCells zs).length = n * 6 := by rw [reqCells_len, hn]
    have h6 := reqCells_one zs
    have hh := h1.tight.below ((Below.refl _ _).alloc (Nat.le_refl _) (.cells #[] 71)) (Nat.le_refl _)
    have ho := World.ownsRow_made (e := 71) (size := 6) w #[] 0 (Nat.le_refl _) (by unfold maxLen; omega) (by simp)
    have HB := Lib.hid (show Below w.heap.size w (w.alloc (.cells #[] 71)) from (Below.refl _ _).alloc (Nat.le_refl _) _)
    have HO := Lib.hid ho
    have HH := Lib.hid hh
    have H6 := Lib.hid h6
    have HLn := Lib.hid hL
    have hm1 := Lib.hid (show 0 + n ≤ maxLen by unfold maxLen; omega)
    have hm2 := Lib.hid (show (0 + n) * 48 ≤ 140737488355328 by omega)
    clear ho hh h6 hL h1
    go_enter Try.func68, Try.ntmps68
    go_wp2_with (at_builtin; refine wpList_apps rfl _ _ 29 rfl w.heap.size 71 i0 _ 6 48 Try.underlying29 hi0 hx0 hx1 hx2 rfl (by decide) _ 0 [] rfl HO.out _ (some ad) n c (reqCells zs) rfl HLn.out HH.out (fun e => by cases e) H6.out hm1.out hm2.out HB.out.size ?_)
    intro v w1 ho hg _
    have HR := Lib.hid ho
    have HG := Lib.hid (HB.out.grown hg HB.out.size (fun k hk => by cases hk; exact Nat.le_refl _))
    clear ho hg
    go_wp2
    go_ret
    exact ⟨v, rfl, HR.out, HG.out⟩
end Go.Proofs.Ytcebnmhkbhhfiaa
