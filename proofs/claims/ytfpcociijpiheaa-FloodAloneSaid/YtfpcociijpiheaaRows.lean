/-
  No cell of these rows narrows 'for every input' (looked for: loops, veiled, ifaces, maps, wideKeys, modest, calm, conditions, laid).
  DERIVED. THE GIVEN ROWS OF THIS SEAT. 2 by the template 'for every input the law returns true; each argument reads behind the call as it read before'; 0 by the template 'total and deterministic' (their statements: YtfpcociijpiheaaTotals.lean).
  GIVEN WITH THE SEED: the statements are not yours to turn. If you find one false, say at which input.
  Laid BY PROGRAM, IN A SANDBOX (cutbox-rows.mjs): the forced cells as the released guide's own fill.sh prints them over the translation 16c7bf85987e3e55… (all of the seat's roots in one cut). By AI agents, Wed Nov 11 2026. No macro, syntax, notation, axiom, sorry.
-/
import Derived.Test.YtfpcociijpiheaaChecked
import GoSem.Claim
import GoSem.ClaimJoined
import GoSem.ClaimMapViews
import Derived.JoinedTies
import Derived.KernelRfl
namespace Go.Proofs.Ytfpcociijpiheaa
/- THE CELL 'sum', in the pinned program and in every row, IS THE sha256 OF THE DUMP (.gsa) THAT YtfpcociijpiheaaProg.lean LOADS. Nothing in Lean hashes anything: it is a label: what it is worth is what the hold of that sum in a sandbox is worth. -/
noncomputable def Try.pinned : Pinned := { name := "ytfpcociijpiheaa", sum := "16c7bf85987e3e555dfb4b441fc8d2863c8a59b57e12934288d0f3562509db33", checked := Try.checked }
namespace Rows
def none {H : Type} : Left H := { results := [], args := [] }

/-- 'psephoslaw08.FloodCounts': WHATEVER THE INPUT: true; the input reads as it did. -/
def floodCountsSpec : ChangeSpec := { name := "floodCounts", fn := fun _ => fun
  | [d1, d2, d3] => { results := [.lit (.bool true)], args := [d1, d2, d3] }
  | _ => none }
def floodCountsRow : OpenClaim := { program := "ytfpcociijpiheaa", sum := "16c7bf85987e3e555dfb4b441fc8d2863c8a59b57e12934288d0f3562509db33", func := "psephos/psephoslaw08.FloodCounts", spec := "floodCounts", apart := false }
def FloodCountsSaid : Prop := floodCountsRow.holds Try.pinned (OpenSpec.ofChange floodCountsSpec)

/-- ITS FALSE NEIGHBOUR: 'it returns false'. Refute it at one input. -/
def floodCountsWrong : ChangeSpec := { name := "floodCounts", fn := fun _ => fun
  | [d1, d2, d3] => { results := [.lit (.bool false)], args := [d1, d2, d3] }
  | _ => none }
def FloodCountsWrongFalsely : Prop := floodCountsRow.holds Try.pinned (OpenSpec.ofChange floodCountsWrong)

/-- 'psephoslaw08.FloodAlone': WHATEVER THE INPUT: true; the input reads as it did. -/
def floodAloneSpec : ChangeSpec := { name := "floodAlone", fn := fun _ => fun
  | [d1, d2, d3, d4, d5] => { results := [.lit (.bool true)], args := [d1, d2, d3, d4, d5] }
  | _ => none }
def floodAloneRow : OpenClaim := { program := "ytfpcociijpiheaa", sum := "16c7bf85987e3e555dfb4b441fc8d2863c8a59b57e12934288d0f3562509db33", func := "psephos/psephoslaw08.FloodAlone", spec := "floodAlone", apart := false }
def FloodAloneSaid : Prop := floodAloneRow.holds Try.pinned (OpenSpec.ofChange floodAloneSpec)

/-- ITS FALSE NEIGHBOUR: 'it returns false'. Refute it at one input. -/
def floodAloneWrong : ChangeSpec := { name := "floodAlone", fn := fun _ => fun
  | [d1, d2, d3, d4, d5] => { results := [.lit (.bool false)], args := [d1, d2, d3, d4, d5] }
  | _ => none }
def FloodAloneWrongFalsely : Prop := floodAloneRow.holds Try.pinned (OpenSpec.ofChange floodAloneWrong)

/- THE SECOND FORM. 'bulk': how many values and letters a reading holds, each counted each time it is reached (what is shared counts as often as it is met; a slice's spare places count too). A statement '..UptoSaid' is the law's where the arguments, and the package variables that the reading takes, are together of bulk at most 1048576: NARROWER than '..Said'. Prove '..Said' where nothing that the law and all that it calls make is longer than what came in: it says more and counts as full. Else prove '..UptoSaid'. A law counts once. -/
mutual
def uptoBulk {H : Type} : DataW H → Nat
  | .lit (.string bytes) => bytes.length + 1
  | .lit _ => 1
  | .nil => 1
  | .ptr d => uptoBulk d + 1
  | .slice elems spare => uptoBulkAll elems + uptoBulkAll spare + 1
  | .agg parts => uptoBulkAll parts + 1
  | .iface _ d => uptoBulk d + 1
  | .map entries => uptoBulkEntries entries + 1
  | .held _ => 1
def uptoBulkAll {H : Type} : List (DataW H) → Nat
  | [] => 0
  | d :: r => uptoBulk d + uptoBulkAll r
def uptoBulkEntries {H : Type} : List (Lit × DataW H) → Nat
  | [] => 0
  | x :: r => uptoBulkEntry x + uptoBulkEntries r
def uptoBulkEntry {H : Type} : Lit × DataW H → Nat
  | (.string bytes, d) => bytes.length + uptoBulk d + 1
  | (_, d) => uptoBulk d + 1
 end
def uptoSmall : (H : Type) → List (DataW H) → Bool := fun _ ds => decide (uptoBulkAll ds ≤ 1048576)
def OpenSpec.upto (s : _root_.Go.ChangeSpec) : _root_.Go.OpenSpec := { _root_.Go.OpenSpec.ofChange s with cond := some uptoSmall }

/-- 'psephoslaw08.FloodCounts', WHERE WHAT IT READS IS OF BULK AT MOST 1048576: true; the input reads as it did. -/
def floodCountsUptoRow : OpenClaim := { program := "ytfpcociijpiheaa", sum := "16c7bf85987e3e555dfb4b441fc8d2863c8a59b57e12934288d0f3562509db33", func := "psephos/psephoslaw08.FloodCounts", spec := "floodCounts", apart := false, narrowed := true }
def FloodCountsUptoSaid : Prop := floodCountsUptoRow.holds Try.pinned (OpenSpec.upto floodCountsSpec)

/-- 'psephoslaw08.FloodAlone', WHERE WHAT IT READS IS OF BULK AT MOST 1048576: true; the input reads as it did. -/
def floodAloneUptoRow : OpenClaim := { program := "ytfpcociijpiheaa", sum := "16c7bf85987e3e555dfb4b441fc8d2863c8a59b57e12934288d0f3562509db33", func := "psephos/psephoslaw08.FloodAlone", spec := "floodAlone", apart := false, narrowed := true }
def FloodAloneUptoSaid : Prop := floodAloneUptoRow.holds Try.pinned (OpenSpec.upto floodAloneSpec)

end Rows
end Go.Proofs.Ytfpcociijpiheaa
