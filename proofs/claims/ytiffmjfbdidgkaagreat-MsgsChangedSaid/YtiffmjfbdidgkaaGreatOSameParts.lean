/- The contract of keep.Parts: whether two lists of parts are the same. -/
import Derived.Test.YtiffmjfbdidgkaaGreatOSameCerts
import Derived.Deep.RegionHeld3
namespace Go.Proofs.YtiffmjfbdidgkaaGreat
open Go.RowKit

end Go.Proofs.YtiffmjfbdidgkaaGreat
