/-
  No cell of these rows narrows 'for every input' (looked for: loops, veiled, ifaces, maps, wideKeys, modest, calm, conditions, laid).
  DERIVED. THE GIVEN ROWS OF THIS SEAT. 4 by the template 'for every input the law returns true; each argument reads behind the call as it read before'; 0 by the template 'total and deterministic' (their statements: YtalniijnlolbkaaTotals.lean).
  GIVEN WITH THE SEED: the statements are not yours to turn. If you find one false, say at which input.
  Laid BY PROGRAM, IN A SANDBOX (cutbox-rows.mjs): the forced cells as the released guide's own fill.sh prints them over the translation b14964107985a3e5… (all of the seat's roots in one cut). By AI agents, Wed Nov 11 2026. No macro, syntax, notation, axiom, sorry.
-/
import Derived.Test.YtalniijnlolbkaaChecked
import GoSem.Claim
import GoSem.ClaimJoined
import GoSem.ClaimMapViews
import Derived.JoinedTies
import Derived.KernelRfl
namespace Go.Proofs.Ytalniijnlolbkaa
/- THE CELL 'sum', in the pinned program and in every row, IS THE sha256 OF THE DUMP (.gsa) THAT YtalniijnlolbkaaProg.lean LOADS. Nothing in Lean hashes anything: it is a label: what it is worth is what the hold of that sum in a sandbox is worth. -/
noncomputable def Try.pinned : Pinned := { name := "ytalniijnlolbkaa", sum := "b14964107985a3e5c280c80a1ddd16acb4b9ca7e81a06cd2eeb1ed55ffdc5b08", checked := Try.checked }
namespace Rows
def none {H : Type} : Left H := { results := [], args := [] }

/-- 'psephoslaw03.NotaryPlays': WHATEVER THE INPUT: true; the input reads as it did. -/
def notaryPlaysSpec : ChangeSpec := { name := "notaryPlays", fn := fun _ => fun
  | [d] => { results := [.lit (.bool true)], args := [d] }
  | _ => none }
def notaryPlaysRow : OpenClaim := { program := "ytalniijnlolbkaa", sum := "b14964107985a3e5c280c80a1ddd16acb4b9ca7e81a06cd2eeb1ed55ffdc5b08", func := "psephos/psephoslaw03.NotaryPlays", spec := "notaryPlays", plainKeys := false, apart := false }
def NotaryPlaysSaid : Prop := notaryPlaysRow.holds Try.pinned (OpenSpec.ofChange notaryPlaysSpec)

/-- ITS FALSE NEIGHBOUR: 'it returns false'. Refute it at one input. -/
def notaryPlaysWrong : ChangeSpec := { name := "notaryPlays", fn := fun _ => fun
  | [d] => { results := [.lit (.bool false)], args := [d] }
  | _ => none }
def NotaryPlaysWrongFalsely : Prop := notaryPlaysRow.holds Try.pinned (OpenSpec.ofChange notaryPlaysWrong)

/-- 'psephoslaw03.NotaryAlone': WHATEVER THE INPUT: true; the input reads as it did. -/
def notaryAloneSpec : ChangeSpec := { name := "notaryAlone", fn := fun _ => fun
  | [d1, d2, d3] => { results := [.lit (.bool true)], args := [d1, d2, d3] }
  | _ => none }
def notaryAloneRow : OpenClaim := { program := "ytalniijnlolbkaa", sum := "b14964107985a3e5c280c80a1ddd16acb4b9ca7e81a06cd2eeb1ed55ffdc5b08", func := "psephos/psephoslaw03.NotaryAlone", spec := "notaryAlone", plainKeys := false, apart := false }
def NotaryAloneSaid : Prop := notaryAloneRow.holds Try.pinned (OpenSpec.ofChange notaryAloneSpec)

/-- ITS FALSE NEIGHBOUR: 'it returns false'. Refute it at one input. -/
def notaryAloneWrong : ChangeSpec := { name := "notaryAlone", fn := fun _ => fun
  | [d1, d2, d3] => { results := [.lit (.bool false)], args := [d1, d2, d3] }
  | _ => none }
def NotaryAloneWrongFalsely : Prop := notaryAloneRow.holds Try.pinned (OpenSpec.ofChange notaryAloneWrong)

/-- 'psephoslaw03.NotaryClones': WHATEVER THE INPUT: true; the input reads as it did. -/
def notaryClonesSpec : ChangeSpec := { name := "notaryClones", fn := fun _ => fun
  | [d1, d2, d3] => { results := [.lit (.bool true)], args := [d1, d2, d3] }
  | _ => none }
def notaryClonesRow : OpenClaim := { program := "ytalniijnlolbkaa", sum := "b14964107985a3e5c280c80a1ddd16acb4b9ca7e81a06cd2eeb1ed55ffdc5b08", func := "psephos/psephoslaw03.NotaryClones", spec := "notaryClones", inPlace := ["maps.clone"], plainKeys := false, apart := false }
def NotaryClonesSaid : Prop := notaryClonesRow.holds Try.pinned (OpenSpec.ofChange notaryClonesSpec)

/-- ITS FALSE NEIGHBOUR: 'it returns false'. Refute it at one input. -/
def notaryClonesWrong : ChangeSpec := { name := "notaryClones", fn := fun _ => fun
  | [d1, d2, d3] => { results := [.lit (.bool false)], args := [d1, d2, d3] }
  | _ => none }
def NotaryClonesWrongFalsely : Prop := notaryClonesRow.holds Try.pinned (OpenSpec.ofChange notaryClonesWrong)

/-- 'psephoslaw03.NotaryNumbers': WHATEVER THE INPUT: true; the input reads as it did. -/
def notaryNumbersSpec : ChangeSpec := { name := "notaryNumbers", fn := fun _ => fun
  | [d1, d2] => { results := [.lit (.bool true)], args := [d1, d2] }
  | _ => none }
def notaryNumbersRow : OpenClaim := { program := "ytalniijnlolbkaa", sum := "b14964107985a3e5c280c80a1ddd16acb4b9ca7e81a06cd2eeb1ed55ffdc5b08", func := "psephos/psephoslaw03.NotaryNumbers", spec := "notaryNumbers", plainKeys := false, apart := false }
def NotaryNumbersSaid : Prop := notaryNumbersRow.holds Try.pinned (OpenSpec.ofChange notaryNumbersSpec)

/-- ITS FALSE NEIGHBOUR: 'it returns false'. Refute it at one input. -/
def notaryNumbersWrong : ChangeSpec := { name := "notaryNumbers", fn := fun _ => fun
  | [d1, d2] => { results := [.lit (.bool false)], args := [d1, d2] }
  | _ => none }
def NotaryNumbersWrongFalsely : Prop := notaryNumbersRow.holds Try.pinned (OpenSpec.ofChange notaryNumbersWrong)

/- THE SECOND FORM. 'bulk': how many values and letters a reading holds, each counted each time it is reached (what is shared counts as often as it is met; a slice's spare places count too). A statement '..UptoSaid' is the law's where the arguments, and the package variables that the reading takes, are together of bulk at most 1048576: NARROWER than '..Said'. Prove '..Said' where nothing that the law and all that it calls make is longer than what came in: it says more and counts as full. Else prove '..UptoSaid'. A law counts once. -/
mutual
def uptoBulk {H : Type} : DataW H → Nat
  | .lit (.string bytes) => bytes.length + 1
  | .lit _ => 1
  | .nil => 1
  | .ptr d => uptoBulk d + 1
  | .slice elems spare => uptoBulkAll elems + uptoBulkAll spare + 1
  | .agg parts => uptoBulkAll parts + 1
  | .iface _ d => uptoBulk d + 1
  | .map entries => uptoBulkEntries entries + 1
  | .held _ => 1
def uptoBulkAll {H : Type} : List (DataW H) → Nat
  | [] => 0
  | d :: r => uptoBulk d + uptoBulkAll r
def uptoBulkEntries {H : Type} : List (Lit × DataW H) → Nat
  | [] => 0
  | x :: r => uptoBulkEntry x + uptoBulkEntries r
def uptoBulkEntry {H : Type} : Lit × DataW H → Nat
  | (.string bytes, d) => bytes.length + uptoBulk d + 1
  | (_, d) => uptoBulk d + 1
 end
def uptoSmall : (H : Type) → List (DataW H) → Bool := fun _ ds => decide (uptoBulkAll ds ≤ 1048576)
def OpenSpec.upto (s : _root_.Go.ChangeSpec) : _root_.Go.OpenSpec := { _root_.Go.OpenSpec.ofChange s with cond := some uptoSmall }

/-- 'psephoslaw03.NotaryPlays', WHERE WHAT IT READS IS OF BULK AT MOST 1048576: true; the input reads as it did. -/
def notaryPlaysUptoRow : OpenClaim := { program := "ytalniijnlolbkaa", sum := "b14964107985a3e5c280c80a1ddd16acb4b9ca7e81a06cd2eeb1ed55ffdc5b08", func := "psephos/psephoslaw03.NotaryPlays", spec := "notaryPlays", plainKeys := false, apart := false, narrowed := true }
def NotaryPlaysUptoSaid : Prop := notaryPlaysUptoRow.holds Try.pinned (OpenSpec.upto notaryPlaysSpec)

/-- 'psephoslaw03.NotaryAlone', WHERE WHAT IT READS IS OF BULK AT MOST 1048576: true; the input reads as it did. -/
def notaryAloneUptoRow : OpenClaim := { program := "ytalniijnlolbkaa", sum := "b14964107985a3e5c280c80a1ddd16acb4b9ca7e81a06cd2eeb1ed55ffdc5b08", func := "psephos/psephoslaw03.NotaryAlone", spec := "notaryAlone", plainKeys := false, apart := false, narrowed := true }
def NotaryAloneUptoSaid : Prop := notaryAloneUptoRow.holds Try.pinned (OpenSpec.upto notaryAloneSpec)

/-- 'psephoslaw03.NotaryClones', WHERE WHAT IT READS IS OF BULK AT MOST 1048576: true; the input reads as it did. -/
def notaryClonesUptoRow : OpenClaim := { program := "ytalniijnlolbkaa", sum := "b14964107985a3e5c280c80a1ddd16acb4b9ca7e81a06cd2eeb1ed55ffdc5b08", func := "psephos/psephoslaw03.NotaryClones", spec := "notaryClones", inPlace := ["maps.clone"], plainKeys := false, apart := false, narrowed := true }
def NotaryClonesUptoSaid : Prop := notaryClonesUptoRow.holds Try.pinned (OpenSpec.upto notaryClonesSpec)

/-- 'psephoslaw03.NotaryNumbers', WHERE WHAT IT READS IS OF BULK AT MOST 1048576: true; the input reads as it did. -/
def notaryNumbersUptoRow : OpenClaim := { program := "ytalniijnlolbkaa", sum := "b14964107985a3e5c280c80a1ddd16acb4b9ca7e81a06cd2eeb1ed55ffdc5b08", func := "psephos/psephoslaw03.NotaryNumbers", spec := "notaryNumbers", plainKeys := false, apart := false, narrowed := true }
def NotaryNumbersUptoSaid : Prop := notaryNumbersUptoRow.holds Try.pinned (OpenSpec.upto notaryNumbersSpec)

end Rows
end Go.Proofs.Ytalniijnlolbkaa
