/-
  No cell of these rows narrows 'for every input' (looked for: loops, veiled, ifaces, maps, wideKeys, modest, calm, conditions, laid).
  DERIVED. THE GIVEN ROWS OF THIS SEAT. 6 by the template 'for every input the law returns true; each argument reads behind the call as it read before'; 0 by the template 'total and deterministic' (their statements: YthlmalangjgioaaTotals.lean).
  GIVEN WITH THE SEED: the statements are not yours to turn. If you find one false, say at which input.
  Laid BY PROGRAM, IN A SANDBOX (cutbox-rows.mjs): the forced cells as the released guide's own fill.sh prints them over the translation 3bd560450d2faa78… (all of the seat's roots in one cut). By AI agents, Wed Nov 11 2026. No macro, syntax, notation, axiom, sorry.
-/
import Derived.Test.YthlmalangjgioaaChecked
import GoSem.Claim
import GoSem.ClaimJoined
import GoSem.ClaimMapViews
import Derived.JoinedTies
import Derived.KernelRfl
namespace Go.Proofs.Ythlmalangjgioaa
/- THE CELL 'sum', in the pinned program and in every row, IS THE sha256 OF THE DUMP (.gsa) THAT YthlmalangjgioaaProg.lean LOADS. Nothing in Lean hashes anything: it is a label: what it is worth is what the hold of that sum in a sandbox is worth. -/
noncomputable def Try.pinned : Pinned := { name := "ythlmalangjgioaa", sum := "3bd560450d2faa78ca739e025a4d1009258cea3cfff657e1c224285b1ab65eb4", checked := Try.checked }
namespace Rows
def none {H : Type} : Left H := { results := [], args := [] }

/-- 'psephoslaw14.SlotOrders': WHATEVER THE INPUT: true; the input reads as it did. -/
def slotOrdersSpec : ChangeSpec := { name := "slotOrders", fn := fun _ => fun
  | [d1, d2, d3] => { results := [.lit (.bool true)], args := [d1, d2, d3] }
  | _ => none }
def slotOrdersRow : OpenClaim := { program := "ythlmalangjgioaa", sum := "3bd560450d2faa78ca739e025a4d1009258cea3cfff657e1c224285b1ab65eb4", func := "psephos/psephoslaw14.SlotOrders", spec := "slotOrders", apart := false }
def SlotOrdersSaid : Prop := slotOrdersRow.holds Try.pinned (OpenSpec.ofChange slotOrdersSpec)

/-- ITS FALSE NEIGHBOUR: 'it returns false'. Refute it at one input. -/
def slotOrdersWrong : ChangeSpec := { name := "slotOrders", fn := fun _ => fun
  | [d1, d2, d3] => { results := [.lit (.bool false)], args := [d1, d2, d3] }
  | _ => none }
def SlotOrdersWrongFalsely : Prop := slotOrdersRow.holds Try.pinned (OpenSpec.ofChange slotOrdersWrong)

/-- 'psephoslaw14.SlotNull': WHATEVER THE INPUT: true; the input reads as it did. -/
def slotNullSpec : ChangeSpec := { name := "slotNull", fn := fun _ => fun
  | [d] => { results := [.lit (.bool true)], args := [d] }
  | _ => none }
def slotNullRow : OpenClaim := { program := "ythlmalangjgioaa", sum := "3bd560450d2faa78ca739e025a4d1009258cea3cfff657e1c224285b1ab65eb4", func := "psephos/psephoslaw14.SlotNull", spec := "slotNull", apart := false }
def SlotNullSaid : Prop := slotNullRow.holds Try.pinned (OpenSpec.ofChange slotNullSpec)

/-- ITS FALSE NEIGHBOUR: 'it returns false'. Refute it at one input. -/
def slotNullWrong : ChangeSpec := { name := "slotNull", fn := fun _ => fun
  | [d] => { results := [.lit (.bool false)], args := [d] }
  | _ => none }
def SlotNullWrongFalsely : Prop := slotNullRow.holds Try.pinned (OpenSpec.ofChange slotNullWrong)

/-- 'psephoslaw14.SlotPlays': WHATEVER THE INPUT: true; the input reads as it did. -/
def slotPlaysSpec : ChangeSpec := { name := "slotPlays", fn := fun _ => fun
  | [d1, d2, d3] => { results := [.lit (.bool true)], args := [d1, d2, d3] }
  | _ => none }
def slotPlaysRow : OpenClaim := { program := "ythlmalangjgioaa", sum := "3bd560450d2faa78ca739e025a4d1009258cea3cfff657e1c224285b1ab65eb4", func := "psephos/psephoslaw14.SlotPlays", spec := "slotPlays", apart := false }
def SlotPlaysSaid : Prop := slotPlaysRow.holds Try.pinned (OpenSpec.ofChange slotPlaysSpec)

/-- ITS FALSE NEIGHBOUR: 'it returns false'. Refute it at one input. -/
def slotPlaysWrong : ChangeSpec := { name := "slotPlays", fn := fun _ => fun
  | [d1, d2, d3] => { results := [.lit (.bool false)], args := [d1, d2, d3] }
  | _ => none }
def SlotPlaysWrongFalsely : Prop := slotPlaysRow.holds Try.pinned (OpenSpec.ofChange slotPlaysWrong)

/-- 'psephoslaw14.SlotQuorums': WHATEVER THE INPUT: true; the input reads as it did. -/
def slotQuorumsSpec : ChangeSpec := { name := "slotQuorums", fn := fun _ => fun
  | [d1, d2] => { results := [.lit (.bool true)], args := [d1, d2] }
  | _ => none }
def slotQuorumsRow : OpenClaim := { program := "ythlmalangjgioaa", sum := "3bd560450d2faa78ca739e025a4d1009258cea3cfff657e1c224285b1ab65eb4", func := "psephos/psephoslaw14.SlotQuorums", spec := "slotQuorums", apart := false }
def SlotQuorumsSaid : Prop := slotQuorumsRow.holds Try.pinned (OpenSpec.ofChange slotQuorumsSpec)

/-- ITS FALSE NEIGHBOUR: 'it returns false'. Refute it at one input. -/
def slotQuorumsWrong : ChangeSpec := { name := "slotQuorums", fn := fun _ => fun
  | [d1, d2] => { results := [.lit (.bool false)], args := [d1, d2] }
  | _ => none }
def SlotQuorumsWrongFalsely : Prop := slotQuorumsRow.holds Try.pinned (OpenSpec.ofChange slotQuorumsWrong)

/-- 'psephoslaw14.SlotLowest': WHATEVER THE INPUT: true; the input reads as it did. -/
def slotLowestSpec : ChangeSpec := { name := "slotLowest", fn := fun _ => fun
  | [d1, d2, d3] => { results := [.lit (.bool true)], args := [d1, d2, d3] }
  | _ => none }
def slotLowestRow : OpenClaim := { program := "ythlmalangjgioaa", sum := "3bd560450d2faa78ca739e025a4d1009258cea3cfff657e1c224285b1ab65eb4", func := "psephos/psephoslaw14.SlotLowest", spec := "slotLowest", apart := false }
def SlotLowestSaid : Prop := slotLowestRow.holds Try.pinned (OpenSpec.ofChange slotLowestSpec)

/-- ITS FALSE NEIGHBOUR: 'it returns false'. Refute it at one input. -/
def slotLowestWrong : ChangeSpec := { name := "slotLowest", fn := fun _ => fun
  | [d1, d2, d3] => { results := [.lit (.bool false)], args := [d1, d2, d3] }
  | _ => none }
def SlotLowestWrongFalsely : Prop := slotLowestRow.holds Try.pinned (OpenSpec.ofChange slotLowestWrong)

/-- 'psephoslaw14.SlotOther': WHATEVER THE INPUT: true; the input reads as it did. -/
def slotOtherSpec : ChangeSpec := { name := "slotOther", fn := fun _ => fun
  | [d1, d2] => { results := [.lit (.bool true)], args := [d1, d2] }
  | _ => none }
def slotOtherRow : OpenClaim := { program := "ythlmalangjgioaa", sum := "3bd560450d2faa78ca739e025a4d1009258cea3cfff657e1c224285b1ab65eb4", func := "psephos/psephoslaw14.SlotOther", spec := "slotOther", apart := false }
def SlotOtherSaid : Prop := slotOtherRow.holds Try.pinned (OpenSpec.ofChange slotOtherSpec)

/-- ITS FALSE NEIGHBOUR: 'it returns false'. Refute it at one input. -/
def slotOtherWrong : ChangeSpec := { name := "slotOther", fn := fun _ => fun
  | [d1, d2] => { results := [.lit (.bool false)], args := [d1, d2] }
  | _ => none }
def SlotOtherWrongFalsely : Prop := slotOtherRow.holds Try.pinned (OpenSpec.ofChange slotOtherWrong)

/- THE SECOND FORM. 'bulk': how many values and letters a reading holds, each counted each time it is reached (what is shared counts as often as it is met; a slice's spare places count too). A statement '..UptoSaid' is the law's where the arguments, and the package variables that the reading takes, are together of bulk at most 1048576: NARROWER than '..Said'. Prove '..Said' where nothing that the law and all that it calls make is longer than what came in: it says more and counts as full. Else prove '..UptoSaid'. A law counts once. -/
mutual
def uptoBulk {H : Type} : DataW H → Nat
  | .lit (.string bytes) => bytes.length + 1
  | .lit _ => 1
  | .nil => 1
  | .ptr d => uptoBulk d + 1
  | .slice elems spare => uptoBulkAll elems + uptoBulkAll spare + 1
  | .agg parts => uptoBulkAll parts + 1
  | .iface _ d => uptoBulk d + 1
  | .map entries => uptoBulkEntries entries + 1
  | .held _ => 1
def uptoBulkAll {H : Type} : List (DataW H) → Nat
  | [] => 0
  | d :: r => uptoBulk d + uptoBulkAll r
def uptoBulkEntries {H : Type} : List (Lit × DataW H) → Nat
  | [] => 0
  | x :: r => uptoBulkEntry x + uptoBulkEntries r
def uptoBulkEntry {H : Type} : Lit × DataW H → Nat
  | (.string bytes, d) => bytes.length + uptoBulk d + 1
  | (_, d) => uptoBulk d + 1
 end
def uptoSmall : (H : Type) → List (DataW H) → Bool := fun _ ds => decide (uptoBulkAll ds ≤ 1048576)
def OpenSpec.upto (s : _root_.Go.ChangeSpec) : _root_.Go.OpenSpec := { _root_.Go.OpenSpec.ofChange s with cond := some uptoSmall }

/-- 'psephoslaw14.SlotOrders', WHERE WHAT IT READS IS OF BULK AT MOST 1048576: true; the input reads as it did. -/
def slotOrdersUptoRow : OpenClaim := { program := "ythlmalangjgioaa", sum := "3bd560450d2faa78ca739e025a4d1009258cea3cfff657e1c224285b1ab65eb4", func := "psephos/psephoslaw14.SlotOrders", spec := "slotOrders", apart := false, narrowed := true }
def SlotOrdersUptoSaid : Prop := slotOrdersUptoRow.holds Try.pinned (OpenSpec.upto slotOrdersSpec)

/-- 'psephoslaw14.SlotNull', WHERE WHAT IT READS IS OF BULK AT MOST 1048576: true; the input reads as it did. -/
def slotNullUptoRow : OpenClaim := { program := "ythlmalangjgioaa", sum := "3bd560450d2faa78ca739e025a4d1009258cea3cfff657e1c224285b1ab65eb4", func := "psephos/psephoslaw14.SlotNull", spec := "slotNull", apart := false, narrowed := true }
def SlotNullUptoSaid : Prop := slotNullUptoRow.holds Try.pinned (OpenSpec.upto slotNullSpec)

/-- 'psephoslaw14.SlotPlays', WHERE WHAT IT READS IS OF BULK AT MOST 1048576: true; the input reads as it did. -/
def slotPlaysUptoRow : OpenClaim := { program := "ythlmalangjgioaa", sum := "3bd560450d2faa78ca739e025a4d1009258cea3cfff657e1c224285b1ab65eb4", func := "psephos/psephoslaw14.SlotPlays", spec := "slotPlays", apart := false, narrowed := true }
def SlotPlaysUptoSaid : Prop := slotPlaysUptoRow.holds Try.pinned (OpenSpec.upto slotPlaysSpec)

/-- 'psephoslaw14.SlotQuorums', WHERE WHAT IT READS IS OF BULK AT MOST 1048576: true; the input reads as it did. -/
def slotQuorumsUptoRow : OpenClaim := { program := "ythlmalangjgioaa", sum := "3bd560450d2faa78ca739e025a4d1009258cea3cfff657e1c224285b1ab65eb4", func := "psephos/psephoslaw14.SlotQuorums", spec := "slotQuorums", apart := false, narrowed := true }
def SlotQuorumsUptoSaid : Prop := slotQuorumsUptoRow.holds Try.pinned (OpenSpec.upto slotQuorumsSpec)

/-- 'psephoslaw14.SlotLowest', WHERE WHAT IT READS IS OF BULK AT MOST 1048576: true; the input reads as it did. -/
def slotLowestUptoRow : OpenClaim := { program := "ythlmalangjgioaa", sum := "3bd560450d2faa78ca739e025a4d1009258cea3cfff657e1c224285b1ab65eb4", func := "psephos/psephoslaw14.SlotLowest", spec := "slotLowest", apart := false, narrowed := true }
def SlotLowestUptoSaid : Prop := slotLowestUptoRow.holds Try.pinned (OpenSpec.upto slotLowestSpec)

/-- 'psephoslaw14.SlotOther', WHERE WHAT IT READS IS OF BULK AT MOST 1048576: true; the input reads as it did. -/
def slotOtherUptoRow : OpenClaim := { program := "ythlmalangjgioaa", sum := "3bd560450d2faa78ca739e025a4d1009258cea3cfff657e1c224285b1ab65eb4", func := "psephos/psephoslaw14.SlotOther", spec := "slotOther", apart := false, narrowed := true }
def SlotOtherUptoSaid : Prop := slotOtherUptoRow.holds Try.pinned (OpenSpec.upto slotOtherSpec)

end Rows
end Go.Proofs.Ythlmalangjgioaa
