/- The contracts of the document's own pen: certificates, parts; and of Req, Batch, Votes, Certs, Parts over it. -/
import Derived.Test.YtcebnmhkbhhfiaaPenLists
import Derived.Test.YtcebnmhkbhhfiaaPack
namespace Go.Proofs.Ytcebnmhkbhhfiaa
open Go.RowKit

theorem Kept.cellB {B g : Nat} {t : TypeId} {a b : World} (h : Kept B g t a b) (hg : B ≤ g) {p : Addr} {v : Value} (hc : a.cell? p = some v) (hp : p.block < B) : b.cell? p = some v :=
  (World.cell?_of_block (w := a) (h.block p.block (block_lt hc) (by omega) (fun h2 => by omega))).trans hc

/-- What done answers. -/
def DonePost (B : Nat) (st : Option (List Int)) (w : World) (e : Ending) (w' : World) : Prop :=
  w = w' ∧ ((∃ bs A c, st = some bs ∧ e = .returned (.tuple #[.slice A bs.length c, .bool true]) ∧ w.ownsRow B 5 1 (.slice A bs.length c) bs.length (u8s bs)) ∨ (st = none ∧ e = .returned (.tuple #[.slice none 0 0, .bool false])))
theorem penStep_new (ts : List Tok) : penStep (some []) ts = bytesOf ts := by
  simp only [penStep, bytesOf]
  cases codes ts <;> simp
end Go.Proofs.Ytcebnmhkbhhfiaa
