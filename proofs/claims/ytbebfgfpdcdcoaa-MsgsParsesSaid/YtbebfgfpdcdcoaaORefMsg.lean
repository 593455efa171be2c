/- A message as it lies; the contract of the document's Body. -/
import Derived.Test.YtbebfgfpdcdcoaaOS0
import Derived.Test.YtbebfgfpdcdcoaaOPenCerts
import Derived.Test.YtbebfgfpdcdcoaaOS4
namespace Go.Proofs.Ytbebfgfpdcdcoaa
open Go.RowKit

/-- A message as it lies: it, and where its lists are. -/
structure Ms where
  m : Mg
  A1 : Option Addr
  c1 : Nat
  A2 : Option Addr
  c2 : Nat
  A3 : Option Addr
  c3 : Nat
  A4 : Option Addr
  c4 : Nat
structure Ms.In (w : World) (B : Nat) (x : Ms) : Prop where
  bt : Has w B x.A1 (reqCells x.m.bt)
  vs : Has w B x.A2 (voteCells x.m.vs)
  cs : HasCerts w B x.A3 x.m.cs
  ps : HasParts w B x.A4 x.m.ps
theorem Ms.In.reads {w w' : World} {B B' : Nat} {x : Ms} (h : x.In w B) (hr : Reads B B' w w') : x.In w' B' := ⟨hr _ _ h.bt, hr _ _ h.vs, h.cs.reads hr, h.ps.reads hr⟩
/-- Bytes, or none. -/
def MsgPost (o : Option (List Int)) (w : World) (e : Ending) (w' : World) : Prop :=
  Below w.heap.size w w' ∧ ((∃ bs A c, o = some bs ∧ e = .returned (.tuple #[.slice A bs.length c, .bool true]) ∧ w'.ownsRow w.heap.size 5 1 (.slice A bs.length c) bs.length (u8s bs)) ∨
    (o = none ∧ e = .returned (.tuple #[.slice none 0 0, .bool false])))
theorem bodyM_some {m : Mg} {bs : List Int} (h : bytesOf m.toks = some bs) : bodyM m = if bs.length ≤ 65536 then some bs else none := by unfold bodyM; rw [h]
theorem bodyM_none {m : Mg} (h : bytesOf m.toks = none) : bodyM m = none := by unfold bodyM; rw [h]
end Go.Proofs.Ytbebfgfpdcdcoaa
