/- The contracts of msgs.voteForm, isPrimary, requestForm, and of nodeForm, kind by kind. -/
import Derived.Test.YtiffmjfbdidgkaaGreatOMsgParts
import Derived.Test.YtiffmjfbdidgkaaGreatOS6
namespace Go.Proofs.YtiffmjfbdidgkaaGreat
open Go.RowKit Go.Sort

/-- A message's lists are not too long. -/
structure Mg.Short (m : Mg) : Prop where
  bt : m.bt.length ≤ 1000000
  vs : m.vs.length ≤ 1000000
  cs : m.cs.length ≤ 1000000
  each : ∀ c ∈ m.cs, c.bt.length ≤ 1000000 ∧ c.vs.length ≤ 1000000
  ps : ∀ p ∈ m.ps, p.Short
  pl : m.ps.length ≤ 1000000
end Go.Proofs.YtiffmjfbdidgkaaGreat
