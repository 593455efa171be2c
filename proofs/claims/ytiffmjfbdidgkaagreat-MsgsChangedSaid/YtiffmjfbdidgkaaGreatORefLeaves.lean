/- The contract of the document's viewChange. -/
import Derived.Test.YtiffmjfbdidgkaaGreatOS1
import Derived.IntWalk
namespace Go.Proofs.YtiffmjfbdidgkaaGreat
open Go.RowKit Go.Sort

end Go.Proofs.YtiffmjfbdidgkaaGreat
