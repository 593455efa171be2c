/- The contract of msgs.partsForm. -/
import Derived.Test.YtiffmjfbdidgkaaGreatOMsgChange
import Derived.Test.YtiffmjfbdidgkaaGreatOS6
namespace Go.Proofs.YtiffmjfbdidgkaaGreat
open Go.RowKit Go.Sort

end Go.Proofs.YtiffmjfbdidgkaaGreat
