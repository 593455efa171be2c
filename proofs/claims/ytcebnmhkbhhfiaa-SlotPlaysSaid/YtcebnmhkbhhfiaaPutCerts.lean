/- The contracts of the writer's certificates and parts. -/
import Derived.Test.YtcebnmhkbhhfiaaPutList
namespace Go.Proofs.Ytcebnmhkbhhfiaa
open Go.RowKit

end Go.Proofs.Ytcebnmhkbhhfiaa
