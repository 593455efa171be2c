/- The contracts of the writer's certificates and parts. -/
import Derived.Test.YtpdmflhbmimhgaaPutList
namespace Go.Proofs.Ytpdmflhbmimhgaa
open Go.RowKit

end Go.Proofs.Ytpdmflhbmimhgaa
