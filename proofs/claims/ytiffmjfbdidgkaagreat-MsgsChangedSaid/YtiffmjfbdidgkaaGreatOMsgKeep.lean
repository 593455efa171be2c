/- The contracts of keep.Msg (are two messages the same?) and keep.Heavy (more than is played?). -/
import Derived.Test.YtiffmjfbdidgkaaGreatOS5
import Derived.Test.YtiffmjfbdidgkaaGreatOSameParts
import Derived.Test.YtiffmjfbdidgkaaGreatOS1
namespace Go.Proofs.YtiffmjfbdidgkaaGreat
open Go.RowKit

end Go.Proofs.YtiffmjfbdidgkaaGreat
