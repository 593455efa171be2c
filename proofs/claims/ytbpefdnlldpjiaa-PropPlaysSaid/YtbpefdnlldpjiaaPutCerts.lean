/- The contracts of the writer's certificates and parts. -/
import Derived.Test.YtbpefdnlldpjiaaPutList
namespace Go.Proofs.Ytbpefdnlldpjiaa
open Go.RowKit

end Go.Proofs.Ytbpefdnlldpjiaa
