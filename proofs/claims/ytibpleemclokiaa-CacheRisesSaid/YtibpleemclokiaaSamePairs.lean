/- The contract of keep.Same at rows of two ints that are the same. -/
import Derived.Test.YtibpleemclokiaaStoreMath
import Derived.Test.YtibpleemclokiaaThings
import Derived.Laws.StructEq
import Derived.ChangeKeysEq
import Derived.Deep.QuietTactic
import Derived.BigQuiet
import Derived.Outline
import Derived.Lib.Hide
namespace Go.Proofs.Ytibpleemclokiaa
open Go.RowKit

theorem pair_at {w : World} {B : Nat} {A : Option Addr} {l : List (Int × Int)} (h : Has w B A (pairCells l)) {k : Nat} (hk : k < l.length) :
    ∃ ad, A = some ad ∧ ad.block < B ∧ w.cell? (ad.add (k * 2)) = some (.int .i64 l[k].1) ∧ w.cell? ⟨(ad.add (k * 2)).block, (ad.add (k * 2)).off + 1, none⟩ = some (.int .i64 l[k].2) := by
  obtain ⟨ad, e, hb, hc⟩ := Has.thing (f := fun p : Int × Int => [.int .i64 p.1, .int .i64 p.2]) (s := 2) (fun _ => rfl) (by omega) h hk
  refine ⟨ad, e, hb, hc 0 _ rfl, ?_⟩
  rw [← add_pos _ _ _ (by omega)]
  exact hc 1 _ rfl
end Go.Proofs.Ytibpleemclokiaa
