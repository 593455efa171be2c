/- The contracts of keep.Msg (are two messages the same?) and keep.Heavy (more than is played?). -/
import Derived.Test.YtbegjadohamkkaaGreatOS5
import Derived.Test.YtbegjadohamkkaaGreatOSameParts
import Derived.Test.YtbegjadohamkkaaGreatOS1
namespace Go.Proofs.YtbegjadohamkkaaGreat
open Go.RowKit

end Go.Proofs.YtbegjadohamkkaaGreat
