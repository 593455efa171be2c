/- The contract of keep.Parts: whether two lists of parts are the same. -/
import Derived.Test.YtbegjadohamkkaaGreatOSameCerts
import Derived.Deep.RegionHeld3
namespace Go.Proofs.YtbegjadohamkkaaGreat
open Go.RowKit

end Go.Proofs.YtbegjadohamkkaaGreat
