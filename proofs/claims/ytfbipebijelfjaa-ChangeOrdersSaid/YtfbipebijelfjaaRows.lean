/-
  No cell of these rows narrows 'for every input' (looked for: loops, veiled, ifaces, maps, wideKeys, modest, calm, conditions, laid).
  DERIVED. THE GIVEN ROWS OF THIS SEAT. 4 by the template 'for every input the law returns true; each argument reads behind the call as it read before'; 0 by the template 'total and deterministic' (their statements: YtfbipebijelfjaaTotals.lean).
  GIVEN WITH THE SEED: the statements are not yours to turn. If you find one false, say at which input.
  Laid BY PROGRAM, IN A SANDBOX (cutbox-rows.mjs): the forced cells as the released guide's own fill.sh prints them over the translation c0fe55efd036626e… (all of the seat's roots in one cut). By AI agents, Wed Nov 11 2026. No macro, syntax, notation, axiom, sorry.
-/
import Derived.Test.YtfbipebijelfjaaChecked
import GoSem.Claim
import GoSem.ClaimJoined
import GoSem.ClaimMapViews
import Derived.JoinedTies
import Derived.KernelRfl
namespace Go.Proofs.Ytfbipebijelfjaa
/- THE CELL 'sum', in the pinned program and in every row, IS THE sha256 OF THE DUMP (.gsa) THAT YtfbipebijelfjaaProg.lean LOADS. Nothing in Lean hashes anything: it is a label: what it is worth is what the hold of that sum in a sandbox is worth. -/
noncomputable def Try.pinned : Pinned := { name := "ytfbipebijelfjaa", sum := "c0fe55efd036626e0d1318a8fbe8e4d6215bbff8532c7f86b3b0ad952231b2eb", checked := Try.checked }
namespace Rows
def none {H : Type} : Left H := { results := [], args := [] }

/-- 'psephoslaw16.ChangeOrders': WHATEVER THE INPUT: true; the input reads as it did. -/
def changeOrdersSpec : ChangeSpec := { name := "changeOrders", fn := fun _ => fun
  | [d1, d2, d3] => { results := [.lit (.bool true)], args := [d1, d2, d3] }
  | _ => none }
def changeOrdersRow : OpenClaim := { program := "ytfbipebijelfjaa", sum := "c0fe55efd036626e0d1318a8fbe8e4d6215bbff8532c7f86b3b0ad952231b2eb", func := "psephos/psephoslaw16.ChangeOrders", spec := "changeOrders", apart := false }
def ChangeOrdersSaid : Prop := changeOrdersRow.holds Try.pinned (OpenSpec.ofChange changeOrdersSpec)

/-- ITS FALSE NEIGHBOUR: 'it returns false'. Refute it at one input. -/
def changeOrdersWrong : ChangeSpec := { name := "changeOrders", fn := fun _ => fun
  | [d1, d2, d3] => { results := [.lit (.bool false)], args := [d1, d2, d3] }
  | _ => none }
def ChangeOrdersWrongFalsely : Prop := changeOrdersRow.holds Try.pinned (OpenSpec.ofChange changeOrdersWrong)

/-- 'psephoslaw16.ChangePlays': WHATEVER THE INPUT: true; the input reads as it did. -/
def changePlaysSpec : ChangeSpec := { name := "changePlays", fn := fun _ => fun
  | [d1, d2, d3] => { results := [.lit (.bool true)], args := [d1, d2, d3] }
  | _ => none }
def changePlaysRow : OpenClaim := { program := "ytfbipebijelfjaa", sum := "c0fe55efd036626e0d1318a8fbe8e4d6215bbff8532c7f86b3b0ad952231b2eb", func := "psephos/psephoslaw16.ChangePlays", spec := "changePlays", apart := false }
def ChangePlaysSaid : Prop := changePlaysRow.holds Try.pinned (OpenSpec.ofChange changePlaysSpec)

/-- ITS FALSE NEIGHBOUR: 'it returns false'. Refute it at one input. -/
def changePlaysWrong : ChangeSpec := { name := "changePlays", fn := fun _ => fun
  | [d1, d2, d3] => { results := [.lit (.bool false)], args := [d1, d2, d3] }
  | _ => none }
def ChangePlaysWrongFalsely : Prop := changePlaysRow.holds Try.pinned (OpenSpec.ofChange changePlaysWrong)

/-- 'psephoslaw16.ChangeEnough': WHATEVER THE INPUT: true; the input reads as it did. -/
def changeEnoughSpec : ChangeSpec := { name := "changeEnough", fn := fun _ => fun
  | [d1, d2] => { results := [.lit (.bool true)], args := [d1, d2] }
  | _ => none }
def changeEnoughRow : OpenClaim := { program := "ytfbipebijelfjaa", sum := "c0fe55efd036626e0d1318a8fbe8e4d6215bbff8532c7f86b3b0ad952231b2eb", func := "psephos/psephoslaw16.ChangeEnough", spec := "changeEnough", apart := false }
def ChangeEnoughSaid : Prop := changeEnoughRow.holds Try.pinned (OpenSpec.ofChange changeEnoughSpec)

/-- ITS FALSE NEIGHBOUR: 'it returns false'. Refute it at one input. -/
def changeEnoughWrong : ChangeSpec := { name := "changeEnough", fn := fun _ => fun
  | [d1, d2] => { results := [.lit (.bool false)], args := [d1, d2] }
  | _ => none }
def ChangeEnoughWrongFalsely : Prop := changeEnoughRow.holds Try.pinned (OpenSpec.ofChange changeEnoughWrong)

/-- 'psephoslaw16.ChangeRises': WHATEVER THE INPUT: true; the input reads as it did. -/
def changeRisesSpec : ChangeSpec := { name := "changeRises", fn := fun _ => fun
  | [d1, d2, d3] => { results := [.lit (.bool true)], args := [d1, d2, d3] }
  | _ => none }
def changeRisesRow : OpenClaim := { program := "ytfbipebijelfjaa", sum := "c0fe55efd036626e0d1318a8fbe8e4d6215bbff8532c7f86b3b0ad952231b2eb", func := "psephos/psephoslaw16.ChangeRises", spec := "changeRises", apart := false }
def ChangeRisesSaid : Prop := changeRisesRow.holds Try.pinned (OpenSpec.ofChange changeRisesSpec)

/-- ITS FALSE NEIGHBOUR: 'it returns false'. Refute it at one input. -/
def changeRisesWrong : ChangeSpec := { name := "changeRises", fn := fun _ => fun
  | [d1, d2, d3] => { results := [.lit (.bool false)], args := [d1, d2, d3] }
  | _ => none }
def ChangeRisesWrongFalsely : Prop := changeRisesRow.holds Try.pinned (OpenSpec.ofChange changeRisesWrong)

/- THE SECOND FORM. 'bulk': how many values and letters a reading holds, each counted each time it is reached (what is shared counts as often as it is met; a slice's spare places count too). A statement '..UptoSaid' is the law's where the arguments, and the package variables that the reading takes, are together of bulk at most 1048576: NARROWER than '..Said'. Prove '..Said' where nothing that the law and all that it calls make is longer than what came in: it says more and counts as full. Else prove '..UptoSaid'. A law counts once. -/
mutual
def uptoBulk {H : Type} : DataW H → Nat
  | .lit (.string bytes) => bytes.length + 1
  | .lit _ => 1
  | .nil => 1
  | .ptr d => uptoBulk d + 1
  | .slice elems spare => uptoBulkAll elems + uptoBulkAll spare + 1
  | .agg parts => uptoBulkAll parts + 1
  | .iface _ d => uptoBulk d + 1
  | .map entries => uptoBulkEntries entries + 1
  | .held _ => 1
def uptoBulkAll {H : Type} : List (DataW H) → Nat
  | [] => 0
  | d :: r => uptoBulk d + uptoBulkAll r
def uptoBulkEntries {H : Type} : List (Lit × DataW H) → Nat
  | [] => 0
  | x :: r => uptoBulkEntry x + uptoBulkEntries r
def uptoBulkEntry {H : Type} : Lit × DataW H → Nat
  | (.string bytes, d) => bytes.length + uptoBulk d + 1
  | (_, d) => uptoBulk d + 1
 end
def uptoSmall : (H : Type) → List (DataW H) → Bool := fun _ ds => decide (uptoBulkAll ds ≤ 1048576)
def OpenSpec.upto (s : _root_.Go.ChangeSpec) : _root_.Go.OpenSpec := { _root_.Go.OpenSpec.ofChange s with cond := some uptoSmall }

/-- 'psephoslaw16.ChangeOrders', WHERE WHAT IT READS IS OF BULK AT MOST 1048576: true; the input reads as it did. -/
def changeOrdersUptoRow : OpenClaim := { program := "ytfbipebijelfjaa", sum := "c0fe55efd036626e0d1318a8fbe8e4d6215bbff8532c7f86b3b0ad952231b2eb", func := "psephos/psephoslaw16.ChangeOrders", spec := "changeOrders", apart := false, narrowed := true }
def ChangeOrdersUptoSaid : Prop := changeOrdersUptoRow.holds Try.pinned (OpenSpec.upto changeOrdersSpec)

/-- 'psephoslaw16.ChangePlays', WHERE WHAT IT READS IS OF BULK AT MOST 1048576: true; the input reads as it did. -/
def changePlaysUptoRow : OpenClaim := { program := "ytfbipebijelfjaa", sum := "c0fe55efd036626e0d1318a8fbe8e4d6215bbff8532c7f86b3b0ad952231b2eb", func := "psephos/psephoslaw16.ChangePlays", spec := "changePlays", apart := false, narrowed := true }
def ChangePlaysUptoSaid : Prop := changePlaysUptoRow.holds Try.pinned (OpenSpec.upto changePlaysSpec)

/-- 'psephoslaw16.ChangeEnough', WHERE WHAT IT READS IS OF BULK AT MOST 1048576: true; the input reads as it did. -/
def changeEnoughUptoRow : OpenClaim := { program := "ytfbipebijelfjaa", sum := "c0fe55efd036626e0d1318a8fbe8e4d6215bbff8532c7f86b3b0ad952231b2eb", func := "psephos/psephoslaw16.ChangeEnough", spec := "changeEnough", apart := false, narrowed := true }
def ChangeEnoughUptoSaid : Prop := changeEnoughUptoRow.holds Try.pinned (OpenSpec.upto changeEnoughSpec)

/-- 'psephoslaw16.ChangeRises', WHERE WHAT IT READS IS OF BULK AT MOST 1048576: true; the input reads as it did. -/
def changeRisesUptoRow : OpenClaim := { program := "ytfbipebijelfjaa", sum := "c0fe55efd036626e0d1318a8fbe8e4d6215bbff8532c7f86b3b0ad952231b2eb", func := "psephos/psephoslaw16.ChangeRises", spec := "changeRises", apart := false, narrowed := true }
def ChangeRisesUptoSaid : Prop := changeRisesUptoRow.holds Try.pinned (OpenSpec.upto changeRisesSpec)

end Rows
end Go.Proofs.Ytfbipebijelfjaa
