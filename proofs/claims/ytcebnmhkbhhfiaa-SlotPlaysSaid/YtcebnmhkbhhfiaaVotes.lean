/- Slices of votes: words of layer 4. -/
import Derived.Test.YtcebnmhkbhhfiaaOpens
namespace Go.Proofs.Ytcebnmhkbhhfiaa
open Go.RowKit

theorem voteCells_app (l m : List Vt) : voteCells (l ++ m) = voteCells l ++ voteCells m := by simp [voteCells]
theorem voteCells_one (l : List Vt) : ∀ u ∈ voteCells l, u.oneCell' = true := by
  intro u hu
  obtain ⟨v, _, hv⟩ := List.mem_flatMap.1 hu
  simp [Vt.cells] at hv
  rcases hv with rfl | rfl <;> rfl
/-- A vote of a row. -/
theorem vote_at {w : World} {B : Nat} {A : Option Addr} {l : List Vt} (h : Has w B A (voteCells l)) {k : Nat} (hk : k < l.length) :
    ∃ ad, A = some ad ∧ ad.block < B ∧ w.cell? (ad.add (k * 2)) = some (.int .i64 l[k].nd) ∧ w.cell? ⟨(ad.add (k * 2)).block, (ad.add (k * 2)).off + 1, none⟩ = some (.int .i64 l[k].sg) := h.vote hk
end Go.Proofs.Ytcebnmhkbhhfiaa
