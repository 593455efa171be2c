/-
  No cell of these rows narrows 'for every input' (looked for: loops, veiled, ifaces, maps, wideKeys, modest, calm, conditions, laid).
  DERIVED. THE GIVEN ROWS OF THIS SEAT. 8 by the template 'for every input the law returns true; each argument reads behind the call as it read before'; 0 by the template 'total and deterministic' (their statements: YtpdmflhbmimhgaaTotals.lean).
  GIVEN WITH THE SEED: the statements are not yours to turn. If you find one false, say at which input.
  Laid BY PROGRAM, IN A SANDBOX (cutbox-rows.mjs): the forced cells as the released guide's own fill.sh prints them over the translation 8e5f9bf40bf49309… (all of the seat's roots in one cut). By AI agents, Wed Nov 11 2026. No macro, syntax, notation, axiom, sorry.
-/
import Derived.Test.YtpdmflhbmimhgaaChecked
import GoSem.Claim
import GoSem.ClaimJoined
import GoSem.ClaimMapViews
import Derived.JoinedTies
import Derived.KernelRfl
namespace Go.Proofs.Ytpdmflhbmimhgaa
/- THE CELL 'sum', in the pinned program and in every row, IS THE sha256 OF THE DUMP (.gsa) THAT YtpdmflhbmimhgaaProg.lean LOADS. Nothing in Lean hashes anything: it is a label: what it is worth is what the hold of that sum in a sandbox is worth. -/
noncomputable def Try.pinned : Pinned := { name := "ytpdmflhbmimhgaa", sum := "8e5f9bf40bf49309a81f8c7c83370e695bc5b45ee1d4aade48bcfc5dd9ba191a", checked := Try.checked }
namespace Rows
def none {H : Type} : Left H := { results := [], args := [] }

/-- 'psephoslaw15.InstWindow': WHATEVER THE INPUT: true; the input reads as it did. -/
def instWindowSpec : ChangeSpec := { name := "instWindow", fn := fun _ => fun
  | [d1, d2, d3] => { results := [.lit (.bool true)], args := [d1, d2, d3] }
  | _ => none }
def instWindowRow : OpenClaim := { program := "ytpdmflhbmimhgaa", sum := "8e5f9bf40bf49309a81f8c7c83370e695bc5b45ee1d4aade48bcfc5dd9ba191a", func := "psephos/psephoslaw15.InstWindow", spec := "instWindow", apart := false }
def InstWindowSaid : Prop := instWindowRow.holds Try.pinned (OpenSpec.ofChange instWindowSpec)

/-- ITS FALSE NEIGHBOUR: 'it returns false'. Refute it at one input. -/
def instWindowWrong : ChangeSpec := { name := "instWindow", fn := fun _ => fun
  | [d1, d2, d3] => { results := [.lit (.bool false)], args := [d1, d2, d3] }
  | _ => none }
def InstWindowWrongFalsely : Prop := instWindowRow.holds Try.pinned (OpenSpec.ofChange instWindowWrong)

/-- 'psephoslaw15.InstGaps': WHATEVER THE INPUT: true; the input reads as it did. -/
def instGapsSpec : ChangeSpec := { name := "instGaps", fn := fun _ => fun
  | [d] => { results := [.lit (.bool true)], args := [d] }
  | _ => none }
def instGapsRow : OpenClaim := { program := "ytpdmflhbmimhgaa", sum := "8e5f9bf40bf49309a81f8c7c83370e695bc5b45ee1d4aade48bcfc5dd9ba191a", func := "psephos/psephoslaw15.InstGaps", spec := "instGaps", apart := false }
def InstGapsSaid : Prop := instGapsRow.holds Try.pinned (OpenSpec.ofChange instGapsSpec)

/-- ITS FALSE NEIGHBOUR: 'it returns false'. Refute it at one input. -/
def instGapsWrong : ChangeSpec := { name := "instGaps", fn := fun _ => fun
  | [d] => { results := [.lit (.bool false)], args := [d] }
  | _ => none }
def InstGapsWrongFalsely : Prop := instGapsRow.holds Try.pinned (OpenSpec.ofChange instGapsWrong)

/-- 'psephoslaw15.InstCerts': WHATEVER THE INPUT: true; the input reads as it did. -/
def instCertsSpec : ChangeSpec := { name := "instCerts", fn := fun _ => fun
  | [d1, d2, d3] => { results := [.lit (.bool true)], args := [d1, d2, d3] }
  | _ => none }
def instCertsRow : OpenClaim := { program := "ytpdmflhbmimhgaa", sum := "8e5f9bf40bf49309a81f8c7c83370e695bc5b45ee1d4aade48bcfc5dd9ba191a", func := "psephos/psephoslaw15.InstCerts", spec := "instCerts", apart := false }
def InstCertsSaid : Prop := instCertsRow.holds Try.pinned (OpenSpec.ofChange instCertsSpec)

/-- ITS FALSE NEIGHBOUR: 'it returns false'. Refute it at one input. -/
def instCertsWrong : ChangeSpec := { name := "instCerts", fn := fun _ => fun
  | [d1, d2, d3] => { results := [.lit (.bool false)], args := [d1, d2, d3] }
  | _ => none }
def InstCertsWrongFalsely : Prop := instCertsRow.holds Try.pinned (OpenSpec.ofChange instCertsWrong)

/-- 'psephoslaw15.InstPlays': WHATEVER THE INPUT: true; the input reads as it did. -/
def instPlaysSpec : ChangeSpec := { name := "instPlays", fn := fun _ => fun
  | [d1, d2, d3, d4, d5] => { results := [.lit (.bool true)], args := [d1, d2, d3, d4, d5] }
  | _ => none }
def instPlaysRow : OpenClaim := { program := "ytpdmflhbmimhgaa", sum := "8e5f9bf40bf49309a81f8c7c83370e695bc5b45ee1d4aade48bcfc5dd9ba191a", func := "psephos/psephoslaw15.InstPlays", spec := "instPlays", apart := false }
def InstPlaysSaid : Prop := instPlaysRow.holds Try.pinned (OpenSpec.ofChange instPlaysSpec)

/-- ITS FALSE NEIGHBOUR: 'it returns false'. Refute it at one input. -/
def instPlaysWrong : ChangeSpec := { name := "instPlays", fn := fun _ => fun
  | [d1, d2, d3, d4, d5] => { results := [.lit (.bool false)], args := [d1, d2, d3, d4, d5] }
  | _ => none }
def InstPlaysWrongFalsely : Prop := instPlaysRow.holds Try.pinned (OpenSpec.ofChange instPlaysWrong)

/-- 'psephoslaw15.InstOnce': WHATEVER THE INPUT: true; the input reads as it did. -/
def instOnceSpec : ChangeSpec := { name := "instOnce", fn := fun _ => fun
  | [d1, d2] => { results := [.lit (.bool true)], args := [d1, d2] }
  | _ => none }
def instOnceRow : OpenClaim := { program := "ytpdmflhbmimhgaa", sum := "8e5f9bf40bf49309a81f8c7c83370e695bc5b45ee1d4aade48bcfc5dd9ba191a", func := "psephos/psephoslaw15.InstOnce", spec := "instOnce", apart := false }
def InstOnceSaid : Prop := instOnceRow.holds Try.pinned (OpenSpec.ofChange instOnceSpec)

/-- ITS FALSE NEIGHBOUR: 'it returns false'. Refute it at one input. -/
def instOnceWrong : ChangeSpec := { name := "instOnce", fn := fun _ => fun
  | [d1, d2] => { results := [.lit (.bool false)], args := [d1, d2] }
  | _ => none }
def InstOnceWrongFalsely : Prop := instOnceRow.holds Try.pinned (OpenSpec.ofChange instOnceWrong)

/-- 'psephoslaw15.InstGoes': WHATEVER THE INPUT: true; the input reads as it did. -/
def instGoesSpec : ChangeSpec := { name := "instGoes", fn := fun _ => fun
  | [d1, d2, d3] => { results := [.lit (.bool true)], args := [d1, d2, d3] }
  | _ => none }
def instGoesRow : OpenClaim := { program := "ytpdmflhbmimhgaa", sum := "8e5f9bf40bf49309a81f8c7c83370e695bc5b45ee1d4aade48bcfc5dd9ba191a", func := "psephos/psephoslaw15.InstGoes", spec := "instGoes", apart := false }
def InstGoesSaid : Prop := instGoesRow.holds Try.pinned (OpenSpec.ofChange instGoesSpec)

/-- ITS FALSE NEIGHBOUR: 'it returns false'. Refute it at one input. -/
def instGoesWrong : ChangeSpec := { name := "instGoes", fn := fun _ => fun
  | [d1, d2, d3] => { results := [.lit (.bool false)], args := [d1, d2, d3] }
  | _ => none }
def InstGoesWrongFalsely : Prop := instGoesRow.holds Try.pinned (OpenSpec.ofChange instGoesWrong)

/-- 'psephoslaw15.InstAdopts': WHATEVER THE INPUT: true; the input reads as it did. -/
def instAdoptsSpec : ChangeSpec := { name := "instAdopts", fn := fun _ => fun
  | [d1, d2, d3] => { results := [.lit (.bool true)], args := [d1, d2, d3] }
  | _ => none }
def instAdoptsRow : OpenClaim := { program := "ytpdmflhbmimhgaa", sum := "8e5f9bf40bf49309a81f8c7c83370e695bc5b45ee1d4aade48bcfc5dd9ba191a", func := "psephos/psephoslaw15.InstAdopts", spec := "instAdopts", apart := false }
def InstAdoptsSaid : Prop := instAdoptsRow.holds Try.pinned (OpenSpec.ofChange instAdoptsSpec)

/-- ITS FALSE NEIGHBOUR: 'it returns false'. Refute it at one input. -/
def instAdoptsWrong : ChangeSpec := { name := "instAdopts", fn := fun _ => fun
  | [d1, d2, d3] => { results := [.lit (.bool false)], args := [d1, d2, d3] }
  | _ => none }
def InstAdoptsWrongFalsely : Prop := instAdoptsRow.holds Try.pinned (OpenSpec.ofChange instAdoptsWrong)

/-- 'psephoslaw15.InstLeaves': WHATEVER THE INPUT: true; the input reads as it did. -/
def instLeavesSpec : ChangeSpec := { name := "instLeaves", fn := fun _ => fun
  | [d1, d2] => { results := [.lit (.bool true)], args := [d1, d2] }
  | _ => none }
def instLeavesRow : OpenClaim := { program := "ytpdmflhbmimhgaa", sum := "8e5f9bf40bf49309a81f8c7c83370e695bc5b45ee1d4aade48bcfc5dd9ba191a", func := "psephos/psephoslaw15.InstLeaves", spec := "instLeaves", apart := false }
def InstLeavesSaid : Prop := instLeavesRow.holds Try.pinned (OpenSpec.ofChange instLeavesSpec)

/-- ITS FALSE NEIGHBOUR: 'it returns false'. Refute it at one input. -/
def instLeavesWrong : ChangeSpec := { name := "instLeaves", fn := fun _ => fun
  | [d1, d2] => { results := [.lit (.bool false)], args := [d1, d2] }
  | _ => none }
def InstLeavesWrongFalsely : Prop := instLeavesRow.holds Try.pinned (OpenSpec.ofChange instLeavesWrong)

/- THE SECOND FORM. 'bulk': how many values and letters a reading holds, each counted each time it is reached (what is shared counts as often as it is met; a slice's spare places count too). A statement '..UptoSaid' is the law's where the arguments, and the package variables that the reading takes, are together of bulk at most 1048576: NARROWER than '..Said'. Prove '..Said' where nothing that the law and all that it calls make is longer than what came in: it says more and counts as full. Else prove '..UptoSaid'. A law counts once. -/
mutual
def uptoBulk {H : Type} : DataW H → Nat
  | .lit (.string bytes) => bytes.length + 1
  | .lit _ => 1
  | .nil => 1
  | .ptr d => uptoBulk d + 1
  | .slice elems spare => uptoBulkAll elems + uptoBulkAll spare + 1
  | .agg parts => uptoBulkAll parts + 1
  | .iface _ d => uptoBulk d + 1
  | .map entries => uptoBulkEntries entries + 1
  | .held _ => 1
def uptoBulkAll {H : Type} : List (DataW H) → Nat
  | [] => 0
  | d :: r => uptoBulk d + uptoBulkAll r
def uptoBulkEntries {H : Type} : List (Lit × DataW H) → Nat
  | [] => 0
  | x :: r => uptoBulkEntry x + uptoBulkEntries r
def uptoBulkEntry {H : Type} : Lit × DataW H → Nat
  | (.string bytes, d) => bytes.length + uptoBulk d + 1
  | (_, d) => uptoBulk d + 1
 end
def uptoSmall : (H : Type) → List (DataW H) → Bool := fun _ ds => decide (uptoBulkAll ds ≤ 1048576)
def OpenSpec.upto (s : _root_.Go.ChangeSpec) : _root_.Go.OpenSpec := { _root_.Go.OpenSpec.ofChange s with cond := some uptoSmall }

/-- 'psephoslaw15.InstWindow', WHERE WHAT IT READS IS OF BULK AT MOST 1048576: true; the input reads as it did. -/
def instWindowUptoRow : OpenClaim := { program := "ytpdmflhbmimhgaa", sum := "8e5f9bf40bf49309a81f8c7c83370e695bc5b45ee1d4aade48bcfc5dd9ba191a", func := "psephos/psephoslaw15.InstWindow", spec := "instWindow", apart := false, narrowed := true }
def InstWindowUptoSaid : Prop := instWindowUptoRow.holds Try.pinned (OpenSpec.upto instWindowSpec)

/-- 'psephoslaw15.InstGaps', WHERE WHAT IT READS IS OF BULK AT MOST 1048576: true; the input reads as it did. -/
def instGapsUptoRow : OpenClaim := { program := "ytpdmflhbmimhgaa", sum := "8e5f9bf40bf49309a81f8c7c83370e695bc5b45ee1d4aade48bcfc5dd9ba191a", func := "psephos/psephoslaw15.InstGaps", spec := "instGaps", apart := false, narrowed := true }
def InstGapsUptoSaid : Prop := instGapsUptoRow.holds Try.pinned (OpenSpec.upto instGapsSpec)

/-- 'psephoslaw15.InstCerts', WHERE WHAT IT READS IS OF BULK AT MOST 1048576: true; the input reads as it did. -/
def instCertsUptoRow : OpenClaim := { program := "ytpdmflhbmimhgaa", sum := "8e5f9bf40bf49309a81f8c7c83370e695bc5b45ee1d4aade48bcfc5dd9ba191a", func := "psephos/psephoslaw15.InstCerts", spec := "instCerts", apart := false, narrowed := true }
def InstCertsUptoSaid : Prop := instCertsUptoRow.holds Try.pinned (OpenSpec.upto instCertsSpec)

/-- 'psephoslaw15.InstPlays', WHERE WHAT IT READS IS OF BULK AT MOST 1048576: true; the input reads as it did. -/
def instPlaysUptoRow : OpenClaim := { program := "ytpdmflhbmimhgaa", sum := "8e5f9bf40bf49309a81f8c7c83370e695bc5b45ee1d4aade48bcfc5dd9ba191a", func := "psephos/psephoslaw15.InstPlays", spec := "instPlays", apart := false, narrowed := true }
def InstPlaysUptoSaid : Prop := instPlaysUptoRow.holds Try.pinned (OpenSpec.upto instPlaysSpec)

/-- 'psephoslaw15.InstOnce', WHERE WHAT IT READS IS OF BULK AT MOST 1048576: true; the input reads as it did. -/
def instOnceUptoRow : OpenClaim := { program := "ytpdmflhbmimhgaa", sum := "8e5f9bf40bf49309a81f8c7c83370e695bc5b45ee1d4aade48bcfc5dd9ba191a", func := "psephos/psephoslaw15.InstOnce", spec := "instOnce", apart := false, narrowed := true }
def InstOnceUptoSaid : Prop := instOnceUptoRow.holds Try.pinned (OpenSpec.upto instOnceSpec)

/-- 'psephoslaw15.InstGoes', WHERE WHAT IT READS IS OF BULK AT MOST 1048576: true; the input reads as it did. -/
def instGoesUptoRow : OpenClaim := { program := "ytpdmflhbmimhgaa", sum := "8e5f9bf40bf49309a81f8c7c83370e695bc5b45ee1d4aade48bcfc5dd9ba191a", func := "psephos/psephoslaw15.InstGoes", spec := "instGoes", apart := false, narrowed := true }
def InstGoesUptoSaid : Prop := instGoesUptoRow.holds Try.pinned (OpenSpec.upto instGoesSpec)

/-- 'psephoslaw15.InstAdopts', WHERE WHAT IT READS IS OF BULK AT MOST 1048576: true; the input reads as it did. -/
def instAdoptsUptoRow : OpenClaim := { program := "ytpdmflhbmimhgaa", sum := "8e5f9bf40bf49309a81f8c7c83370e695bc5b45ee1d4aade48bcfc5dd9ba191a", func := "psephos/psephoslaw15.InstAdopts", spec := "instAdopts", apart := false, narrowed := true }
def InstAdoptsUptoSaid : Prop := instAdoptsUptoRow.holds Try.pinned (OpenSpec.upto instAdoptsSpec)

/-- 'psephoslaw15.InstLeaves', WHERE WHAT IT READS IS OF BULK AT MOST 1048576: true; the input reads as it did. -/
def instLeavesUptoRow : OpenClaim := { program := "ytpdmflhbmimhgaa", sum := "8e5f9bf40bf49309a81f8c7c83370e695bc5b45ee1d4aade48bcfc5dd9ba191a", func := "psephos/psephoslaw15.InstLeaves", spec := "instLeaves", apart := false, narrowed := true }
def InstLeavesUptoSaid : Prop := instLeavesUptoRow.holds Try.pinned (OpenSpec.upto instLeavesSpec)

end Rows
end Go.Proofs.Ytpdmflhbmimhgaa
