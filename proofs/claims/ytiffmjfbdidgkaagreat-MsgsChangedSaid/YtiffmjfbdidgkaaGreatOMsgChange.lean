/- The contract of msgs.changeForm. -/
import Derived.Test.YtiffmjfbdidgkaaGreatOS6
import Derived.Test.YtiffmjfbdidgkaaGreatORefLeaves
import Derived.Test.YtiffmjfbdidgkaaGreatOS0
import Derived.IntWalk
namespace Go.Proofs.YtiffmjfbdidgkaaGreat
open Go.RowKit Go.Sort

end Go.Proofs.YtiffmjfbdidgkaaGreat
