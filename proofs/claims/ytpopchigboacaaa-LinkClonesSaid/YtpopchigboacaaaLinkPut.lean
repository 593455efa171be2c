/- More of the law's own list: stores into bytes of the call's own. -/
import Derived.Test.YtpopchigboacaaaLinkJo
namespace Go.Proofs.Ytpopchigboacaaa
open Go.RowKit Go.Sort
set_option linter.unusedSimpArgs false
set_option linter.unusedVariables false

theorem pz_blk {R : Nat → Prop} {w : World} {k : Nat} {t : TypeId} {cs : Array Value} (h : Blk w k t cs) (h1 : t ≠ 42) (h2 : t ≠ 27) : ¬ PZ R w k := by
  rintro ⟨_, cs', fr, t', he, ht⟩
  unfold Blk at h
  rw [h] at he
  injection he with he
  injection he with _ he
  subst he
  exact ht.elim h1 h2
/-- A store into bytes of the call's own. -/
theorem own_store {w : World} {g n c j : Nat} {zs : List Int} (h : w.ownsRow 0 5 1 (.slice (some ⟨g, 0, none⟩) n c) n (u8s zs)) (hj : j < n) (z : Int) : (w.setCell ⟨g, j, none⟩ (.int .u8 z)).ownsRow 0 5 1 (.slice (some ⟨g, 0, none⟩) n c) n (u8s (zs.set j z)) := by
  have := (h.stored j (.int .u8 z)).1
  simpa [u8s, List.map_set] using this
theorem own_row {w : World} {g n c : Nat} {e : TypeId} {xs : List Value} (h : w.ownsRow 0 e 1 (.slice (some ⟨g, 0, none⟩) n c) n xs) : ∃ cs fr, w.heap[g]? = some (.cells cs e fr) := by
  rcases h.2 with ⟨h2, _⟩ | ⟨g', cap, cur, hv, _, hb, _⟩
  · injection h2 with a; cases a
  · injection hv with a1 _ _
    injection a1 with a1
    injection a1 with a1
    subst a1
    exact ⟨_, _, hb⟩
end Go.Proofs.Ytpopchigboacaaa
