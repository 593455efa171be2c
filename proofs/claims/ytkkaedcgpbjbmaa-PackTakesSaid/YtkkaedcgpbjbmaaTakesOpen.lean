/- The closure of PackTakes: a new Eye over the bytes, at the place. -/
import Derived.Test.YtkkaedcgpbjbmaaEyeCerts
import Derived.Test.YtkkaedcgpbjbmaaTaken
import Derived.Test.YtkkaedcgpbjbmaaListsWalk
import Derived.Test.YtkkaedcgpbjbmaaBounds
import Derived.Test.YtkkaedcgpbjbmaaSameParts
import Derived.Test.YtkkaedcgpbjbmaaWithin
import Derived.Deep.DeepCutAuto
import Derived.StillTailTactics
import Derived.Deep.RegionHeld3
namespace Go.Proofs.Ytkkaedcgpbjbmaa
open Go.RowKit

set_option maxHeartbeats 1000000 in
theorem eye_new (X : Value) (i : Int) (a b : Nat) (w : World) (h0 : w.cell? ⟨a, 0, none⟩ = some X) (h1 : w.cell? ⟨b, 0, none⟩ = some (.int .i64 i)) (A : Option Addr) (n c : Nat) (hX : X = .slice A n c) :
    Calls Try.prog 38 #[.pointer (some ⟨a, 0, none⟩), .pointer (some ⟨b, 0, none⟩)] w fun e w' => e = .returned (.pointer (some ⟨w.heap.size, 0, none⟩)) ∧ w' = w.alloc (.cells #[X, .int .i64 i, .bool false] 70) := by
  subst hX
  go_enter Try.func38, Try.ntmps38
  go_wp2
  go_ret
  exact ⟨rfl, rfl⟩
end Go.Proofs.Ytkkaedcgpbjbmaa
