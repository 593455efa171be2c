/- The contract of the document's parts. -/
import Derived.Test.YtiffmjfbdidgkaaGreatOS2
import Derived.Test.YtiffmjfbdidgkaaGreatOS5
namespace Go.Proofs.YtiffmjfbdidgkaaGreat
open Go.RowKit Go.Sort

/-- A part's lists are not too long. -/
structure Pt.Short (p : Pt) : Prop where
  vs : p.vs.length ≤ 1000000
  cs : p.cs.length ≤ 1000000
  each : ∀ c ∈ p.cs, c.bt.length ≤ 1000000 ∧ c.vs.length ≤ 1000000
end Go.Proofs.YtiffmjfbdidgkaaGreat
