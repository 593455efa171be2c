/- The contracts of the writer's certificates and parts. -/
import Derived.Test.YthlmalangjgioaaPutList
namespace Go.Proofs.Ythlmalangjgioaa
open Go.RowKit

end Go.Proofs.Ythlmalangjgioaa
