/- The contracts of the writer's certificates and parts. -/
import Derived.Test.YtdopgdaobpcbjaaPutList
namespace Go.Proofs.Ytdopgdaobpcbjaa
open Go.RowKit

end Go.Proofs.Ytdopgdaobpcbjaa
