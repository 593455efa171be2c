/- The contracts of pack.Req, Batch, Votes, Certs, Parts: the bytes, or none. -/
import Derived.Test.YtcebnmhkbhhfiaaPutCerts
namespace Go.Proofs.Ytcebnmhkbhhfiaa
open Go.RowKit

/-- Bytes in a row of the call's own, and true; or none, and false. -/
def BytesPost (ts : List Tok) (w : World) (e : Ending) (w' : World) : Prop :=
  Below w.heap.size w w' ∧ ((∃ bs A c, bytesOf ts = some bs ∧ e = .returned (.tuple #[.slice A bs.length c, .bool true]) ∧ w'.ownsRow w.heap.size 5 1 (.slice A bs.length c) bs.length (u8s bs)) ∨
    (bytesOf ts = none ∧ e = .returned (.tuple #[.slice none 0 0, .bool false])))

end Go.Proofs.Ytcebnmhkbhhfiaa
