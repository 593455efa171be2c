/-
  No cell of these rows narrows 'for every input' (looked for: loops, veiled, ifaces, maps, wideKeys, modest, calm, conditions, laid).
  DERIVED. THE GIVEN ROWS OF THIS SEAT. 12 by the template 'for every input the law returns true; each argument reads behind the call as it read before'; 0 by the template 'total and deterministic' (their statements: YtallcmknajigfaaTotals.lean).
  GIVEN WITH THE SEED: the statements are not yours to turn. If you find one false, say at which input.
  Laid BY PROGRAM, IN A SANDBOX (cutbox-rows.mjs): the forced cells as the released guide's own fill.sh prints them over the translation 0215e7fe71c4a9aa… (all of the seat's roots in one cut). By AI agents, Wed Nov 11 2026. No macro, syntax, notation, axiom, sorry.
-/
import Derived.Test.YtallcmknajigfaaChecked
import GoSem.Claim
import GoSem.ClaimJoined
import GoSem.ClaimMapViews
import Derived.JoinedTies
import Derived.KernelRfl
namespace Go.Proofs.Ytallcmknajigfaa
/- THE CELL 'sum', in the pinned program and in every row, IS THE sha256 OF THE DUMP (.gsa) THAT YtallcmknajigfaaProg.lean LOADS. Nothing in Lean hashes anything: it is a label: what it is worth is what the hold of that sum in a sandbox is worth. -/
noncomputable def Try.pinned : Pinned := { name := "ytallcmknajigfaa", sum := "0215e7fe71c4a9aa22c102c11bb962f3303ca39aca3758bde0e1bd05ad4466a5", checked := Try.checked }
namespace Rows
def none {H : Type} : Left H := { results := [], args := [] }

/-- 'psephoslaw04.BallotNext': WHATEVER THE INPUT: true; the input reads as it did. -/
def ballotNextSpec : ChangeSpec := { name := "ballotNext", fn := fun _ => fun
  | [d1, d2, d3] => { results := [.lit (.bool true)], args := [d1, d2, d3] }
  | _ => none }
def ballotNextRow : OpenClaim := { program := "ytallcmknajigfaa", sum := "0215e7fe71c4a9aa22c102c11bb962f3303ca39aca3758bde0e1bd05ad4466a5", func := "psephos/psephoslaw04.BallotNext", spec := "ballotNext", plainKeys := false, apart := false }
def BallotNextSaid : Prop := ballotNextRow.holds Try.pinned (OpenSpec.ofChange ballotNextSpec)

/-- ITS FALSE NEIGHBOUR: 'it returns false'. Refute it at one input. -/
def ballotNextWrong : ChangeSpec := { name := "ballotNext", fn := fun _ => fun
  | [d1, d2, d3] => { results := [.lit (.bool false)], args := [d1, d2, d3] }
  | _ => none }
def BallotNextWrongFalsely : Prop := ballotNextRow.holds Try.pinned (OpenSpec.ofChange ballotNextWrong)

/-- 'psephoslaw04.BallotTurned': WHATEVER THE INPUT: true; the input reads as it did. -/
def ballotTurnedSpec : ChangeSpec := { name := "ballotTurned", fn := fun _ => fun
  | [d1, d2, d3] => { results := [.lit (.bool true)], args := [d1, d2, d3] }
  | _ => none }
def ballotTurnedRow : OpenClaim := { program := "ytallcmknajigfaa", sum := "0215e7fe71c4a9aa22c102c11bb962f3303ca39aca3758bde0e1bd05ad4466a5", func := "psephos/psephoslaw04.BallotTurned", spec := "ballotTurned", plainKeys := false, apart := false }
def BallotTurnedSaid : Prop := ballotTurnedRow.holds Try.pinned (OpenSpec.ofChange ballotTurnedSpec)

/-- ITS FALSE NEIGHBOUR: 'it returns false'. Refute it at one input. -/
def ballotTurnedWrong : ChangeSpec := { name := "ballotTurned", fn := fun _ => fun
  | [d1, d2, d3] => { results := [.lit (.bool false)], args := [d1, d2, d3] }
  | _ => none }
def BallotTurnedWrongFalsely : Prop := ballotTurnedRow.holds Try.pinned (OpenSpec.ofChange ballotTurnedWrong)

/-- 'psephoslaw04.BallotSizes': WHATEVER THE INPUT: true; the input reads as it did. -/
def ballotSizesSpec : ChangeSpec := { name := "ballotSizes", fn := fun _ => fun
  | [d1, d2, d3] => { results := [.lit (.bool true)], args := [d1, d2, d3] }
  | _ => none }
def ballotSizesRow : OpenClaim := { program := "ytallcmknajigfaa", sum := "0215e7fe71c4a9aa22c102c11bb962f3303ca39aca3758bde0e1bd05ad4466a5", func := "psephos/psephoslaw04.BallotSizes", spec := "ballotSizes", plainKeys := false, apart := false }
def BallotSizesSaid : Prop := ballotSizesRow.holds Try.pinned (OpenSpec.ofChange ballotSizesSpec)

/-- ITS FALSE NEIGHBOUR: 'it returns false'. Refute it at one input. -/
def ballotSizesWrong : ChangeSpec := { name := "ballotSizes", fn := fun _ => fun
  | [d1, d2, d3] => { results := [.lit (.bool false)], args := [d1, d2, d3] }
  | _ => none }
def BallotSizesWrongFalsely : Prop := ballotSizesRow.holds Try.pinned (OpenSpec.ofChange ballotSizesWrong)

/-- 'psephoslaw04.BallotPrimaries': WHATEVER THE INPUT: true; the input reads as it did. -/
def ballotPrimariesSpec : ChangeSpec := { name := "ballotPrimaries", fn := fun _ => fun
  | [d1, d2] => { results := [.lit (.bool true)], args := [d1, d2] }
  | _ => none }
def ballotPrimariesRow : OpenClaim := { program := "ytallcmknajigfaa", sum := "0215e7fe71c4a9aa22c102c11bb962f3303ca39aca3758bde0e1bd05ad4466a5", func := "psephos/psephoslaw04.BallotPrimaries", spec := "ballotPrimaries", plainKeys := false, apart := false }
def BallotPrimariesSaid : Prop := ballotPrimariesRow.holds Try.pinned (OpenSpec.ofChange ballotPrimariesSpec)

/-- ITS FALSE NEIGHBOUR: 'it returns false'. Refute it at one input. -/
def ballotPrimariesWrong : ChangeSpec := { name := "ballotPrimaries", fn := fun _ => fun
  | [d1, d2] => { results := [.lit (.bool false)], args := [d1, d2] }
  | _ => none }
def BallotPrimariesWrongFalsely : Prop := ballotPrimariesRow.holds Try.pinned (OpenSpec.ofChange ballotPrimariesWrong)

/-- 'psephoslaw04.BallotSets': WHATEVER THE INPUT: true; the input reads as it did. -/
def ballotSetsSpec : ChangeSpec := { name := "ballotSets", fn := fun _ => fun
  | [d] => { results := [.lit (.bool true)], args := [d] }
  | _ => none }
def ballotSetsRow : OpenClaim := { program := "ytallcmknajigfaa", sum := "0215e7fe71c4a9aa22c102c11bb962f3303ca39aca3758bde0e1bd05ad4466a5", func := "psephos/psephoslaw04.BallotSets", spec := "ballotSets", plainKeys := false, apart := false }
def BallotSetsSaid : Prop := ballotSetsRow.holds Try.pinned (OpenSpec.ofChange ballotSetsSpec)

/-- ITS FALSE NEIGHBOUR: 'it returns false'. Refute it at one input. -/
def ballotSetsWrong : ChangeSpec := { name := "ballotSets", fn := fun _ => fun
  | [d] => { results := [.lit (.bool false)], args := [d] }
  | _ => none }
def BallotSetsWrongFalsely : Prop := ballotSetsRow.holds Try.pinned (OpenSpec.ofChange ballotSetsWrong)

/-- 'psephoslaw04.BallotRises': WHATEVER THE INPUT: true; the input reads as it did. -/
def ballotRisesSpec : ChangeSpec := { name := "ballotRises", fn := fun _ => fun
  | [d1, d2] => { results := [.lit (.bool true)], args := [d1, d2] }
  | _ => none }
def ballotRisesRow : OpenClaim := { program := "ytallcmknajigfaa", sum := "0215e7fe71c4a9aa22c102c11bb962f3303ca39aca3758bde0e1bd05ad4466a5", func := "psephos/psephoslaw04.BallotRises", spec := "ballotRises", plainKeys := false, apart := false }
def BallotRisesSaid : Prop := ballotRisesRow.holds Try.pinned (OpenSpec.ofChange ballotRisesSpec)

/-- ITS FALSE NEIGHBOUR: 'it returns false'. Refute it at one input. -/
def ballotRisesWrong : ChangeSpec := { name := "ballotRises", fn := fun _ => fun
  | [d1, d2] => { results := [.lit (.bool false)], args := [d1, d2] }
  | _ => none }
def BallotRisesWrongFalsely : Prop := ballotRisesRow.holds Try.pinned (OpenSpec.ofChange ballotRisesWrong)

/-- 'psephoslaw04.BallotCommons': WHATEVER THE INPUT: true; the input reads as it did. -/
def ballotCommonsSpec : ChangeSpec := { name := "ballotCommons", fn := fun _ => fun
  | [d1, d2, d3] => { results := [.lit (.bool true)], args := [d1, d2, d3] }
  | _ => none }
def ballotCommonsRow : OpenClaim := { program := "ytallcmknajigfaa", sum := "0215e7fe71c4a9aa22c102c11bb962f3303ca39aca3758bde0e1bd05ad4466a5", func := "psephos/psephoslaw04.BallotCommons", spec := "ballotCommons", recurses := true, plainKeys := false, apart := false }
def BallotCommonsSaid : Prop := ballotCommonsRow.holds Try.pinned (OpenSpec.ofChange ballotCommonsSpec)

/-- ITS FALSE NEIGHBOUR: 'it returns false'. Refute it at one input. -/
def ballotCommonsWrong : ChangeSpec := { name := "ballotCommons", fn := fun _ => fun
  | [d1, d2, d3] => { results := [.lit (.bool false)], args := [d1, d2, d3] }
  | _ => none }
def BallotCommonsWrongFalsely : Prop := ballotCommonsRow.holds Try.pinned (OpenSpec.ofChange ballotCommonsWrong)

/-- 'psephoslaw04.BallotWeak': WHATEVER THE INPUT: true; the input reads as it did. -/
def ballotWeakSpec : ChangeSpec := { name := "ballotWeak", fn := fun _ => fun
  | [d1, d2, d3] => { results := [.lit (.bool true)], args := [d1, d2, d3] }
  | _ => none }
def ballotWeakRow : OpenClaim := { program := "ytallcmknajigfaa", sum := "0215e7fe71c4a9aa22c102c11bb962f3303ca39aca3758bde0e1bd05ad4466a5", func := "psephos/psephoslaw04.BallotWeak", spec := "ballotWeak", plainKeys := false, apart := false }
def BallotWeakSaid : Prop := ballotWeakRow.holds Try.pinned (OpenSpec.ofChange ballotWeakSpec)

/-- ITS FALSE NEIGHBOUR: 'it returns false'. Refute it at one input. -/
def ballotWeakWrong : ChangeSpec := { name := "ballotWeak", fn := fun _ => fun
  | [d1, d2, d3] => { results := [.lit (.bool false)], args := [d1, d2, d3] }
  | _ => none }
def BallotWeakWrongFalsely : Prop := ballotWeakRow.holds Try.pinned (OpenSpec.ofChange ballotWeakWrong)

/-- 'psephoslaw05.ReqsParts': WHATEVER THE INPUT: true; the input reads as it did. -/
def reqsPartsSpec : ChangeSpec := { name := "reqsParts", fn := fun _ => fun
  | [d1, d2] => { results := [.lit (.bool true)], args := [d1, d2] }
  | _ => none }
def reqsPartsRow : OpenClaim := { program := "ytallcmknajigfaa", sum := "0215e7fe71c4a9aa22c102c11bb962f3303ca39aca3758bde0e1bd05ad4466a5", func := "psephos/psephoslaw05.ReqsParts", spec := "reqsParts", unfollowed := true, recurses := true, plainKeys := false, apart := false }
def ReqsPartsSaid : Prop := reqsPartsRow.holds Try.pinned (OpenSpec.ofChange reqsPartsSpec)

/-- ITS FALSE NEIGHBOUR: 'it returns false'. Refute it at one input. -/
def reqsPartsWrong : ChangeSpec := { name := "reqsParts", fn := fun _ => fun
  | [d1, d2] => { results := [.lit (.bool false)], args := [d1, d2] }
  | _ => none }
def ReqsPartsWrongFalsely : Prop := reqsPartsRow.holds Try.pinned (OpenSpec.ofChange reqsPartsWrong)

/-- 'psephoslaw05.ReqsValid': WHATEVER THE INPUT: true; the input reads as it did. -/
def reqsValidSpec : ChangeSpec := { name := "reqsValid", fn := fun _ => fun
  | [d1, d2] => { results := [.lit (.bool true)], args := [d1, d2] }
  | _ => none }
def reqsValidRow : OpenClaim := { program := "ytallcmknajigfaa", sum := "0215e7fe71c4a9aa22c102c11bb962f3303ca39aca3758bde0e1bd05ad4466a5", func := "psephos/psephoslaw05.ReqsValid", spec := "reqsValid", plainKeys := false, apart := false }
def ReqsValidSaid : Prop := reqsValidRow.holds Try.pinned (OpenSpec.ofChange reqsValidSpec)

/-- ITS FALSE NEIGHBOUR: 'it returns false'. Refute it at one input. -/
def reqsValidWrong : ChangeSpec := { name := "reqsValid", fn := fun _ => fun
  | [d1, d2] => { results := [.lit (.bool false)], args := [d1, d2] }
  | _ => none }
def ReqsValidWrongFalsely : Prop := reqsValidRow.holds Try.pinned (OpenSpec.ofChange reqsValidWrong)

/-- 'psephoslaw05.ReqsSealed': WHATEVER THE INPUT: true; the input reads as it did. -/
def reqsSealedSpec : ChangeSpec := { name := "reqsSealed", fn := fun _ => fun
  | [d1, d2, d3, d4] => { results := [.lit (.bool true)], args := [d1, d2, d3, d4] }
  | _ => none }
def reqsSealedRow : OpenClaim := { program := "ytallcmknajigfaa", sum := "0215e7fe71c4a9aa22c102c11bb962f3303ca39aca3758bde0e1bd05ad4466a5", func := "psephos/psephoslaw05.ReqsSealed", spec := "reqsSealed", plainKeys := false, apart := false }
def ReqsSealedSaid : Prop := reqsSealedRow.holds Try.pinned (OpenSpec.ofChange reqsSealedSpec)

/-- ITS FALSE NEIGHBOUR: 'it returns false'. Refute it at one input. -/
def reqsSealedWrong : ChangeSpec := { name := "reqsSealed", fn := fun _ => fun
  | [d1, d2, d3, d4] => { results := [.lit (.bool false)], args := [d1, d2, d3, d4] }
  | _ => none }
def ReqsSealedWrongFalsely : Prop := reqsSealedRow.holds Try.pinned (OpenSpec.ofChange reqsSealedWrong)

/-- 'psephoslaw05.ReqsMakes': WHATEVER THE INPUT: true; the input reads as it did. -/
def reqsMakesSpec : ChangeSpec := { name := "reqsMakes", fn := fun _ => fun
  | [d1, d2, d3, d4] => { results := [.lit (.bool true)], args := [d1, d2, d3, d4] }
  | _ => none }
def reqsMakesRow : OpenClaim := { program := "ytallcmknajigfaa", sum := "0215e7fe71c4a9aa22c102c11bb962f3303ca39aca3758bde0e1bd05ad4466a5", func := "psephos/psephoslaw05.ReqsMakes", spec := "reqsMakes", plainKeys := false, apart := false }
def ReqsMakesSaid : Prop := reqsMakesRow.holds Try.pinned (OpenSpec.ofChange reqsMakesSpec)

/-- ITS FALSE NEIGHBOUR: 'it returns false'. Refute it at one input. -/
def reqsMakesWrong : ChangeSpec := { name := "reqsMakes", fn := fun _ => fun
  | [d1, d2, d3, d4] => { results := [.lit (.bool false)], args := [d1, d2, d3, d4] }
  | _ => none }
def ReqsMakesWrongFalsely : Prop := reqsMakesRow.holds Try.pinned (OpenSpec.ofChange reqsMakesWrong)

/- THE SECOND FORM. 'bulk': how many values and letters a reading holds, each counted each time it is reached (what is shared counts as often as it is met; a slice's spare places count too). A statement '..UptoSaid' is the law's where the arguments, and the package variables that the reading takes, are together of bulk at most 1048576: NARROWER than '..Said'. Prove '..Said' where nothing that the law and all that it calls make is longer than what came in: it says more and counts as full. Else prove '..UptoSaid'. A law counts once. -/
mutual
def uptoBulk {H : Type} : DataW H → Nat
  | .lit (.string bytes) => bytes.length + 1
  | .lit _ => 1
  | .nil => 1
  | .ptr d => uptoBulk d + 1
  | .slice elems spare => uptoBulkAll elems + uptoBulkAll spare + 1
  | .agg parts => uptoBulkAll parts + 1
  | .iface _ d => uptoBulk d + 1
  | .map entries => uptoBulkEntries entries + 1
  | .held _ => 1
def uptoBulkAll {H : Type} : List (DataW H) → Nat
  | [] => 0
  | d :: r => uptoBulk d + uptoBulkAll r
def uptoBulkEntries {H : Type} : List (Lit × DataW H) → Nat
  | [] => 0
  | x :: r => uptoBulkEntry x + uptoBulkEntries r
def uptoBulkEntry {H : Type} : Lit × DataW H → Nat
  | (.string bytes, d) => bytes.length + uptoBulk d + 1
  | (_, d) => uptoBulk d + 1
 end
def uptoSmall : (H : Type) → List (DataW H) → Bool := fun _ ds => decide (uptoBulkAll ds ≤ 1048576)
def OpenSpec.upto (s : _root_.Go.ChangeSpec) : _root_.Go.OpenSpec := { _root_.Go.OpenSpec.ofChange s with cond := some uptoSmall }

/-- 'psephoslaw04.BallotNext', WHERE WHAT IT READS IS OF BULK AT MOST 1048576: true; the input reads as it did. -/
def ballotNextUptoRow : OpenClaim := { program := "ytallcmknajigfaa", sum := "0215e7fe71c4a9aa22c102c11bb962f3303ca39aca3758bde0e1bd05ad4466a5", func := "psephos/psephoslaw04.BallotNext", spec := "ballotNext", plainKeys := false, apart := false, narrowed := true }
def BallotNextUptoSaid : Prop := ballotNextUptoRow.holds Try.pinned (OpenSpec.upto ballotNextSpec)

/-- 'psephoslaw04.BallotTurned', WHERE WHAT IT READS IS OF BULK AT MOST 1048576: true; the input reads as it did. -/
def ballotTurnedUptoRow : OpenClaim := { program := "ytallcmknajigfaa", sum := "0215e7fe71c4a9aa22c102c11bb962f3303ca39aca3758bde0e1bd05ad4466a5", func := "psephos/psephoslaw04.BallotTurned", spec := "ballotTurned", plainKeys := false, apart := false, narrowed := true }
def BallotTurnedUptoSaid : Prop := ballotTurnedUptoRow.holds Try.pinned (OpenSpec.upto ballotTurnedSpec)

/-- 'psephoslaw04.BallotSizes', WHERE WHAT IT READS IS OF BULK AT MOST 1048576: true; the input reads as it did. -/
def ballotSizesUptoRow : OpenClaim := { program := "ytallcmknajigfaa", sum := "0215e7fe71c4a9aa22c102c11bb962f3303ca39aca3758bde0e1bd05ad4466a5", func := "psephos/psephoslaw04.BallotSizes", spec := "ballotSizes", plainKeys := false, apart := false, narrowed := true }
def BallotSizesUptoSaid : Prop := ballotSizesUptoRow.holds Try.pinned (OpenSpec.upto ballotSizesSpec)

/-- 'psephoslaw04.BallotPrimaries', WHERE WHAT IT READS IS OF BULK AT MOST 1048576: true; the input reads as it did. -/
def ballotPrimariesUptoRow : OpenClaim := { program := "ytallcmknajigfaa", sum := "0215e7fe71c4a9aa22c102c11bb962f3303ca39aca3758bde0e1bd05ad4466a5", func := "psephos/psephoslaw04.BallotPrimaries", spec := "ballotPrimaries", plainKeys := false, apart := false, narrowed := true }
def BallotPrimariesUptoSaid : Prop := ballotPrimariesUptoRow.holds Try.pinned (OpenSpec.upto ballotPrimariesSpec)

/-- 'psephoslaw04.BallotSets', WHERE WHAT IT READS IS OF BULK AT MOST 1048576: true; the input reads as it did. -/
def ballotSetsUptoRow : OpenClaim := { program := "ytallcmknajigfaa", sum := "0215e7fe71c4a9aa22c102c11bb962f3303ca39aca3758bde0e1bd05ad4466a5", func := "psephos/psephoslaw04.BallotSets", spec := "ballotSets", plainKeys := false, apart := false, narrowed := true }
def BallotSetsUptoSaid : Prop := ballotSetsUptoRow.holds Try.pinned (OpenSpec.upto ballotSetsSpec)

/-- 'psephoslaw04.BallotRises', WHERE WHAT IT READS IS OF BULK AT MOST 1048576: true; the input reads as it did. -/
def ballotRisesUptoRow : OpenClaim := { program := "ytallcmknajigfaa", sum := "0215e7fe71c4a9aa22c102c11bb962f3303ca39aca3758bde0e1bd05ad4466a5", func := "psephos/psephoslaw04.BallotRises", spec := "ballotRises", plainKeys := false, apart := false, narrowed := true }
def BallotRisesUptoSaid : Prop := ballotRisesUptoRow.holds Try.pinned (OpenSpec.upto ballotRisesSpec)

/-- 'psephoslaw04.BallotCommons', WHERE WHAT IT READS IS OF BULK AT MOST 1048576: true; the input reads as it did. -/
def ballotCommonsUptoRow : OpenClaim := { program := "ytallcmknajigfaa", sum := "0215e7fe71c4a9aa22c102c11bb962f3303ca39aca3758bde0e1bd05ad4466a5", func := "psephos/psephoslaw04.BallotCommons", spec := "ballotCommons", recurses := true, plainKeys := false, apart := false, narrowed := true }
def BallotCommonsUptoSaid : Prop := ballotCommonsUptoRow.holds Try.pinned (OpenSpec.upto ballotCommonsSpec)

/-- 'psephoslaw04.BallotWeak', WHERE WHAT IT READS IS OF BULK AT MOST 1048576: true; the input reads as it did. -/
def ballotWeakUptoRow : OpenClaim := { program := "ytallcmknajigfaa", sum := "0215e7fe71c4a9aa22c102c11bb962f3303ca39aca3758bde0e1bd05ad4466a5", func := "psephos/psephoslaw04.BallotWeak", spec := "ballotWeak", plainKeys := false, apart := false, narrowed := true }
def BallotWeakUptoSaid : Prop := ballotWeakUptoRow.holds Try.pinned (OpenSpec.upto ballotWeakSpec)

/-- 'psephoslaw05.ReqsParts', WHERE WHAT IT READS IS OF BULK AT MOST 1048576: true; the input reads as it did. -/
def reqsPartsUptoRow : OpenClaim := { program := "ytallcmknajigfaa", sum := "0215e7fe71c4a9aa22c102c11bb962f3303ca39aca3758bde0e1bd05ad4466a5", func := "psephos/psephoslaw05.ReqsParts", spec := "reqsParts", unfollowed := true, recurses := true, plainKeys := false, apart := false, narrowed := true }
def ReqsPartsUptoSaid : Prop := reqsPartsUptoRow.holds Try.pinned (OpenSpec.upto reqsPartsSpec)

/-- 'psephoslaw05.ReqsValid', WHERE WHAT IT READS IS OF BULK AT MOST 1048576: true; the input reads as it did. -/
def reqsValidUptoRow : OpenClaim := { program := "ytallcmknajigfaa", sum := "0215e7fe71c4a9aa22c102c11bb962f3303ca39aca3758bde0e1bd05ad4466a5", func := "psephos/psephoslaw05.ReqsValid", spec := "reqsValid", plainKeys := false, apart := false, narrowed := true }
def ReqsValidUptoSaid : Prop := reqsValidUptoRow.holds Try.pinned (OpenSpec.upto reqsValidSpec)

/-- 'psephoslaw05.ReqsSealed', WHERE WHAT IT READS IS OF BULK AT MOST 1048576: true; the input reads as it did. -/
def reqsSealedUptoRow : OpenClaim := { program := "ytallcmknajigfaa", sum := "0215e7fe71c4a9aa22c102c11bb962f3303ca39aca3758bde0e1bd05ad4466a5", func := "psephos/psephoslaw05.ReqsSealed", spec := "reqsSealed", plainKeys := false, apart := false, narrowed := true }
def ReqsSealedUptoSaid : Prop := reqsSealedUptoRow.holds Try.pinned (OpenSpec.upto reqsSealedSpec)

/-- 'psephoslaw05.ReqsMakes', WHERE WHAT IT READS IS OF BULK AT MOST 1048576: true; the input reads as it did. -/
def reqsMakesUptoRow : OpenClaim := { program := "ytallcmknajigfaa", sum := "0215e7fe71c4a9aa22c102c11bb962f3303ca39aca3758bde0e1bd05ad4466a5", func := "psephos/psephoslaw05.ReqsMakes", spec := "reqsMakes", plainKeys := false, apart := false, narrowed := true }
def ReqsMakesUptoSaid : Prop := reqsMakesUptoRow.holds Try.pinned (OpenSpec.upto reqsMakesSpec)

end Rows
end Go.Proofs.Ytallcmknajigfaa
