/-
  No cell of these rows narrows 'for every input' (looked for: loops, veiled, ifaces, maps, wideKeys, modest, calm, conditions, laid).
  DERIVED. THE GIVEN ROWS OF THIS SEAT. 9 by the template 'for every input the law returns true; each argument reads behind the call as it read before'; 0 by the template 'total and deterministic' (their statements: YtfjgcpeaghlcgaaTotals.lean).
  GIVEN WITH THE SEED: the statements are not yours to turn. If you find one false, say at which input.
  Laid BY PROGRAM, IN A SANDBOX (cutbox-rows.mjs): the forced cells as the released guide's own fill.sh prints them over the translation 1aed31334bab11dd… (all of the seat's roots in one cut). By AI agents, Wed Nov 11 2026. No macro, syntax, notation, axiom, sorry.
-/
import Derived.Test.YtfjgcpeaghlcgaaChecked
import GoSem.Claim
import GoSem.ClaimJoined
import GoSem.ClaimMapViews
import Derived.JoinedTies
import Derived.KernelRfl
namespace Go.Proofs.Ytfjgcpeaghlcgaa
/- THE CELL 'sum', in the pinned program and in every row, IS THE sha256 OF THE DUMP (.gsa) THAT YtfjgcpeaghlcgaaProg.lean LOADS. Nothing in Lean hashes anything: it is a label: what it is worth is what the hold of that sum in a sandbox is worth. -/
noncomputable def Try.pinned : Pinned := { name := "ytfjgcpeaghlcgaa", sum := "1aed31334bab11dd2797c246c48be93faf9c5f512f5a91d693d9348def42d4a8", checked := Try.checked }
namespace Rows
def none {H : Type} : Left H := { results := [], args := [] }

/-- 'psephoslaw01.CodeZigs': WHATEVER THE INPUT: true; the input reads as it did. -/
def codeZigsSpec : ChangeSpec := { name := "codeZigs", fn := fun _ => fun
  | [d] => { results := [.lit (.bool true)], args := [d] }
  | _ => none }
def codeZigsRow : OpenClaim := { program := "ytfjgcpeaghlcgaa", sum := "1aed31334bab11dd2797c246c48be93faf9c5f512f5a91d693d9348def42d4a8", func := "psephos/psephoslaw01.CodeZigs", spec := "codeZigs", apart := false }
def CodeZigsSaid : Prop := codeZigsRow.holds Try.pinned (OpenSpec.ofChange codeZigsSpec)

/-- ITS FALSE NEIGHBOUR: 'it returns false'. Refute it at one input. -/
def codeZigsWrong : ChangeSpec := { name := "codeZigs", fn := fun _ => fun
  | [d] => { results := [.lit (.bool false)], args := [d] }
  | _ => none }
def CodeZigsWrongFalsely : Prop := codeZigsRow.holds Try.pinned (OpenSpec.ofChange codeZigsWrong)

/-- 'psephoslaw01.CodeMixed': WHATEVER THE INPUT: true; the input reads as it did. -/
def codeMixedSpec : ChangeSpec := { name := "codeMixed", fn := fun _ => fun
  | [d] => { results := [.lit (.bool true)], args := [d] }
  | _ => none }
def codeMixedRow : OpenClaim := { program := "ytfjgcpeaghlcgaa", sum := "1aed31334bab11dd2797c246c48be93faf9c5f512f5a91d693d9348def42d4a8", func := "psephos/psephoslaw01.CodeMixed", spec := "codeMixed", apart := false }
def CodeMixedSaid : Prop := codeMixedRow.holds Try.pinned (OpenSpec.ofChange codeMixedSpec)

/-- ITS FALSE NEIGHBOUR: 'it returns false'. Refute it at one input. -/
def codeMixedWrong : ChangeSpec := { name := "codeMixed", fn := fun _ => fun
  | [d] => { results := [.lit (.bool false)], args := [d] }
  | _ => none }
def CodeMixedWrongFalsely : Prop := codeMixedRow.holds Try.pinned (OpenSpec.ofChange codeMixedWrong)

/-- 'psephoslaw01.CodeNumbers': WHATEVER THE INPUT: true; the input reads as it did. -/
def codeNumbersSpec : ChangeSpec := { name := "codeNumbers", fn := fun _ => fun
  | [d1, d2] => { results := [.lit (.bool true)], args := [d1, d2] }
  | _ => none }
def codeNumbersRow : OpenClaim := { program := "ytfjgcpeaghlcgaa", sum := "1aed31334bab11dd2797c246c48be93faf9c5f512f5a91d693d9348def42d4a8", func := "psephos/psephoslaw01.CodeNumbers", spec := "codeNumbers", apart := false }
def CodeNumbersSaid : Prop := codeNumbersRow.holds Try.pinned (OpenSpec.ofChange codeNumbersSpec)

/-- ITS FALSE NEIGHBOUR: 'it returns false'. Refute it at one input. -/
def codeNumbersWrong : ChangeSpec := { name := "codeNumbers", fn := fun _ => fun
  | [d1, d2] => { results := [.lit (.bool false)], args := [d1, d2] }
  | _ => none }
def CodeNumbersWrongFalsely : Prop := codeNumbersRow.holds Try.pinned (OpenSpec.ofChange codeNumbersWrong)

/-- 'psephoslaw01.CodeTakes': WHATEVER THE INPUT: true; the input reads as it did. -/
def codeTakesSpec : ChangeSpec := { name := "codeTakes", fn := fun _ => fun
  | [d1, d2] => { results := [.lit (.bool true)], args := [d1, d2] }
  | _ => none }
def codeTakesRow : OpenClaim := { program := "ytfjgcpeaghlcgaa", sum := "1aed31334bab11dd2797c246c48be93faf9c5f512f5a91d693d9348def42d4a8", func := "psephos/psephoslaw01.CodeTakes", spec := "codeTakes", apart := false }
def CodeTakesSaid : Prop := codeTakesRow.holds Try.pinned (OpenSpec.ofChange codeTakesSpec)

/-- ITS FALSE NEIGHBOUR: 'it returns false'. Refute it at one input. -/
def codeTakesWrong : ChangeSpec := { name := "codeTakes", fn := fun _ => fun
  | [d1, d2] => { results := [.lit (.bool false)], args := [d1, d2] }
  | _ => none }
def CodeTakesWrongFalsely : Prop := codeTakesRow.holds Try.pinned (OpenSpec.ofChange codeTakesWrong)

/-- 'psephoslaw01.CodeSigned': WHATEVER THE INPUT: true; the input reads as it did. -/
def codeSignedSpec : ChangeSpec := { name := "codeSigned", fn := fun _ => fun
  | [d] => { results := [.lit (.bool true)], args := [d] }
  | _ => none }
def codeSignedRow : OpenClaim := { program := "ytfjgcpeaghlcgaa", sum := "1aed31334bab11dd2797c246c48be93faf9c5f512f5a91d693d9348def42d4a8", func := "psephos/psephoslaw01.CodeSigned", spec := "codeSigned", apart := false }
def CodeSignedSaid : Prop := codeSignedRow.holds Try.pinned (OpenSpec.ofChange codeSignedSpec)

/-- ITS FALSE NEIGHBOUR: 'it returns false'. Refute it at one input. -/
def codeSignedWrong : ChangeSpec := { name := "codeSigned", fn := fun _ => fun
  | [d] => { results := [.lit (.bool false)], args := [d] }
  | _ => none }
def CodeSignedWrongFalsely : Prop := codeSignedRow.holds Try.pinned (OpenSpec.ofChange codeSignedWrong)

/-- 'psephoslaw01.CodeUnlike': WHATEVER THE INPUT: true; the input reads as it did. -/
def codeUnlikeSpec : ChangeSpec := { name := "codeUnlike", fn := fun _ => fun
  | [d1, d2] => { results := [.lit (.bool true)], args := [d1, d2] }
  | _ => none }
def codeUnlikeRow : OpenClaim := { program := "ytfjgcpeaghlcgaa", sum := "1aed31334bab11dd2797c246c48be93faf9c5f512f5a91d693d9348def42d4a8", func := "psephos/psephoslaw01.CodeUnlike", spec := "codeUnlike", apart := false }
def CodeUnlikeSaid : Prop := codeUnlikeRow.holds Try.pinned (OpenSpec.ofChange codeUnlikeSpec)

/-- ITS FALSE NEIGHBOUR: 'it returns false'. Refute it at one input. -/
def codeUnlikeWrong : ChangeSpec := { name := "codeUnlike", fn := fun _ => fun
  | [d1, d2] => { results := [.lit (.bool false)], args := [d1, d2] }
  | _ => none }
def CodeUnlikeWrongFalsely : Prop := codeUnlikeRow.holds Try.pinned (OpenSpec.ofChange codeUnlikeWrong)

/-- 'psephoslaw01.CodeRows': WHATEVER THE INPUT: true; the input reads as it did. -/
def codeRowsSpec : ChangeSpec := { name := "codeRows", fn := fun _ => fun
  | [d] => { results := [.lit (.bool true)], args := [d] }
  | _ => none }
def codeRowsRow : OpenClaim := { program := "ytfjgcpeaghlcgaa", sum := "1aed31334bab11dd2797c246c48be93faf9c5f512f5a91d693d9348def42d4a8", func := "psephos/psephoslaw01.CodeRows", spec := "codeRows", apart := false }
def CodeRowsSaid : Prop := codeRowsRow.holds Try.pinned (OpenSpec.ofChange codeRowsSpec)

/-- ITS FALSE NEIGHBOUR: 'it returns false'. Refute it at one input. -/
def codeRowsWrong : ChangeSpec := { name := "codeRows", fn := fun _ => fun
  | [d] => { results := [.lit (.bool false)], args := [d] }
  | _ => none }
def CodeRowsWrongFalsely : Prop := codeRowsRow.holds Try.pinned (OpenSpec.ofChange codeRowsWrong)

/-- 'psephoslaw01.CodeLengths': WHATEVER THE INPUT: true; the input reads as it did. -/
def codeLengthsSpec : ChangeSpec := { name := "codeLengths", fn := fun _ => fun
  | [d] => { results := [.lit (.bool true)], args := [d] }
  | _ => none }
def codeLengthsRow : OpenClaim := { program := "ytfjgcpeaghlcgaa", sum := "1aed31334bab11dd2797c246c48be93faf9c5f512f5a91d693d9348def42d4a8", func := "psephos/psephoslaw01.CodeLengths", spec := "codeLengths", apart := false }
def CodeLengthsSaid : Prop := codeLengthsRow.holds Try.pinned (OpenSpec.ofChange codeLengthsSpec)

/-- ITS FALSE NEIGHBOUR: 'it returns false'. Refute it at one input. -/
def codeLengthsWrong : ChangeSpec := { name := "codeLengths", fn := fun _ => fun
  | [d] => { results := [.lit (.bool false)], args := [d] }
  | _ => none }
def CodeLengthsWrongFalsely : Prop := codeLengthsRow.holds Try.pinned (OpenSpec.ofChange codeLengthsWrong)

/-- 'psephoslaw01.CodeCuts': WHATEVER THE INPUT: true; the input reads as it did. -/
def codeCutsSpec : ChangeSpec := { name := "codeCuts", fn := fun _ => fun
  | [d1, d2] => { results := [.lit (.bool true)], args := [d1, d2] }
  | _ => none }
def codeCutsRow : OpenClaim := { program := "ytfjgcpeaghlcgaa", sum := "1aed31334bab11dd2797c246c48be93faf9c5f512f5a91d693d9348def42d4a8", func := "psephos/psephoslaw01.CodeCuts", spec := "codeCuts", apart := false }
def CodeCutsSaid : Prop := codeCutsRow.holds Try.pinned (OpenSpec.ofChange codeCutsSpec)

/-- ITS FALSE NEIGHBOUR: 'it returns false'. Refute it at one input. -/
def codeCutsWrong : ChangeSpec := { name := "codeCuts", fn := fun _ => fun
  | [d1, d2] => { results := [.lit (.bool false)], args := [d1, d2] }
  | _ => none }
def CodeCutsWrongFalsely : Prop := codeCutsRow.holds Try.pinned (OpenSpec.ofChange codeCutsWrong)

/- THE SECOND FORM. 'bulk': how many values and letters a reading holds, each counted each time it is reached (what is shared counts as often as it is met; a slice's spare places count too). A statement '..UptoSaid' is the law's where the arguments, and the package variables that the reading takes, are together of bulk at most 1048576: NARROWER than '..Said'. Prove '..Said' where nothing that the law and all that it calls make is longer than what came in: it says more and counts as full. Else prove '..UptoSaid'. A law counts once. -/
mutual
def uptoBulk {H : Type} : DataW H → Nat
  | .lit (.string bytes) => bytes.length + 1
  | .lit _ => 1
  | .nil => 1
  | .ptr d => uptoBulk d + 1
  | .slice elems spare => uptoBulkAll elems + uptoBulkAll spare + 1
  | .agg parts => uptoBulkAll parts + 1
  | .iface _ d => uptoBulk d + 1
  | .map entries => uptoBulkEntries entries + 1
  | .held _ => 1
def uptoBulkAll {H : Type} : List (DataW H) → Nat
  | [] => 0
  | d :: r => uptoBulk d + uptoBulkAll r
def uptoBulkEntries {H : Type} : List (Lit × DataW H) → Nat
  | [] => 0
  | x :: r => uptoBulkEntry x + uptoBulkEntries r
def uptoBulkEntry {H : Type} : Lit × DataW H → Nat
  | (.string bytes, d) => bytes.length + uptoBulk d + 1
  | (_, d) => uptoBulk d + 1
 end
def uptoSmall : (H : Type) → List (DataW H) → Bool := fun _ ds => decide (uptoBulkAll ds ≤ 1048576)
def OpenSpec.upto (s : _root_.Go.ChangeSpec) : _root_.Go.OpenSpec := { _root_.Go.OpenSpec.ofChange s with cond := some uptoSmall }

/-- 'psephoslaw01.CodeZigs', WHERE WHAT IT READS IS OF BULK AT MOST 1048576: true; the input reads as it did. -/
def codeZigsUptoRow : OpenClaim := { program := "ytfjgcpeaghlcgaa", sum := "1aed31334bab11dd2797c246c48be93faf9c5f512f5a91d693d9348def42d4a8", func := "psephos/psephoslaw01.CodeZigs", spec := "codeZigs", apart := false, narrowed := true }
def CodeZigsUptoSaid : Prop := codeZigsUptoRow.holds Try.pinned (OpenSpec.upto codeZigsSpec)

/-- 'psephoslaw01.CodeMixed', WHERE WHAT IT READS IS OF BULK AT MOST 1048576: true; the input reads as it did. -/
def codeMixedUptoRow : OpenClaim := { program := "ytfjgcpeaghlcgaa", sum := "1aed31334bab11dd2797c246c48be93faf9c5f512f5a91d693d9348def42d4a8", func := "psephos/psephoslaw01.CodeMixed", spec := "codeMixed", apart := false, narrowed := true }
def CodeMixedUptoSaid : Prop := codeMixedUptoRow.holds Try.pinned (OpenSpec.upto codeMixedSpec)

/-- 'psephoslaw01.CodeNumbers', WHERE WHAT IT READS IS OF BULK AT MOST 1048576: true; the input reads as it did. -/
def codeNumbersUptoRow : OpenClaim := { program := "ytfjgcpeaghlcgaa", sum := "1aed31334bab11dd2797c246c48be93faf9c5f512f5a91d693d9348def42d4a8", func := "psephos/psephoslaw01.CodeNumbers", spec := "codeNumbers", apart := false, narrowed := true }
def CodeNumbersUptoSaid : Prop := codeNumbersUptoRow.holds Try.pinned (OpenSpec.upto codeNumbersSpec)

/-- 'psephoslaw01.CodeTakes', WHERE WHAT IT READS IS OF BULK AT MOST 1048576: true; the input reads as it did. -/
def codeTakesUptoRow : OpenClaim := { program := "ytfjgcpeaghlcgaa", sum := "1aed31334bab11dd2797c246c48be93faf9c5f512f5a91d693d9348def42d4a8", func := "psephos/psephoslaw01.CodeTakes", spec := "codeTakes", apart := false, narrowed := true }
def CodeTakesUptoSaid : Prop := codeTakesUptoRow.holds Try.pinned (OpenSpec.upto codeTakesSpec)

/-- 'psephoslaw01.CodeSigned', WHERE WHAT IT READS IS OF BULK AT MOST 1048576: true; the input reads as it did. -/
def codeSignedUptoRow : OpenClaim := { program := "ytfjgcpeaghlcgaa", sum := "1aed31334bab11dd2797c246c48be93faf9c5f512f5a91d693d9348def42d4a8", func := "psephos/psephoslaw01.CodeSigned", spec := "codeSigned", apart := false, narrowed := true }
def CodeSignedUptoSaid : Prop := codeSignedUptoRow.holds Try.pinned (OpenSpec.upto codeSignedSpec)

/-- 'psephoslaw01.CodeUnlike', WHERE WHAT IT READS IS OF BULK AT MOST 1048576: true; the input reads as it did. -/
def codeUnlikeUptoRow : OpenClaim := { program := "ytfjgcpeaghlcgaa", sum := "1aed31334bab11dd2797c246c48be93faf9c5f512f5a91d693d9348def42d4a8", func := "psephos/psephoslaw01.CodeUnlike", spec := "codeUnlike", apart := false, narrowed := true }
def CodeUnlikeUptoSaid : Prop := codeUnlikeUptoRow.holds Try.pinned (OpenSpec.upto codeUnlikeSpec)

/-- 'psephoslaw01.CodeRows', WHERE WHAT IT READS IS OF BULK AT MOST 1048576: true; the input reads as it did. -/
def codeRowsUptoRow : OpenClaim := { program := "ytfjgcpeaghlcgaa", sum := "1aed31334bab11dd2797c246c48be93faf9c5f512f5a91d693d9348def42d4a8", func := "psephos/psephoslaw01.CodeRows", spec := "codeRows", apart := false, narrowed := true }
def CodeRowsUptoSaid : Prop := codeRowsUptoRow.holds Try.pinned (OpenSpec.upto codeRowsSpec)

/-- 'psephoslaw01.CodeLengths', WHERE WHAT IT READS IS OF BULK AT MOST 1048576: true; the input reads as it did. -/
def codeLengthsUptoRow : OpenClaim := { program := "ytfjgcpeaghlcgaa", sum := "1aed31334bab11dd2797c246c48be93faf9c5f512f5a91d693d9348def42d4a8", func := "psephos/psephoslaw01.CodeLengths", spec := "codeLengths", apart := false, narrowed := true }
def CodeLengthsUptoSaid : Prop := codeLengthsUptoRow.holds Try.pinned (OpenSpec.upto codeLengthsSpec)

/-- 'psephoslaw01.CodeCuts', WHERE WHAT IT READS IS OF BULK AT MOST 1048576: true; the input reads as it did. -/
def codeCutsUptoRow : OpenClaim := { program := "ytfjgcpeaghlcgaa", sum := "1aed31334bab11dd2797c246c48be93faf9c5f512f5a91d693d9348def42d4a8", func := "psephos/psephoslaw01.CodeCuts", spec := "codeCuts", apart := false, narrowed := true }
def CodeCutsUptoSaid : Prop := codeCutsUptoRow.holds Try.pinned (OpenSpec.upto codeCutsSpec)

end Rows
end Go.Proofs.Ytfjgcpeaghlcgaa
