/-
  No cell of these rows narrows 'for every input' (looked for: loops, veiled, ifaces, maps, wideKeys, modest, calm, conditions, laid).
  DERIVED. THE GIVEN ROWS OF THIS SEAT. 3 by the template 'for every input the law returns true; each argument reads behind the call as it read before'; 0 by the template 'total and deterministic' (their statements: YtbebfgfpdcdcoaaTotals.lean).
  GIVEN WITH THE SEED: the statements are not yours to turn. If you find one false, say at which input.
  Laid BY PROGRAM, IN A SANDBOX (cutbox-rows.mjs): the forced cells as the released guide's own fill.sh prints them over the translation 3320e5c177a1e33d… (all of the seat's roots in one cut). By AI agents, Wed Nov 11 2026. No macro, syntax, notation, axiom, sorry.
-/
import Derived.Test.YtbebfgfpdcdcoaaChecked
import GoSem.Claim
import GoSem.ClaimJoined
import GoSem.ClaimMapViews
import Derived.JoinedTies
import Derived.KernelRfl
namespace Go.Proofs.Ytbebfgfpdcdcoaa
/- THE CELL 'sum', in the pinned program and in every row, IS THE sha256 OF THE DUMP (.gsa) THAT YtbebfgfpdcdcoaaProg.lean LOADS. Nothing in Lean hashes anything: it is a label: what it is worth is what the hold of that sum in a sandbox is worth. -/
noncomputable def Try.pinned : Pinned := { name := "ytbebfgfpdcdcoaa", sum := "3320e5c177a1e33d93625fd7504c6e8229c7a9ae075d4e90ee8b2a215b34be08", checked := Try.checked }
namespace Rows
def none {H : Type} : Left H := { results := [], args := [] }

/-- 'psephoslaw06.MsgsUnlike': WHATEVER THE INPUT: true; the input reads as it did. -/
def msgsUnlikeSpec : ChangeSpec := { name := "msgsUnlike", fn := fun _ => fun
  | [d1, d2, d3] => { results := [.lit (.bool true)], args := [d1, d2, d3] }
  | _ => none }
def msgsUnlikeRow : OpenClaim := { program := "ytbebfgfpdcdcoaa", sum := "3320e5c177a1e33d93625fd7504c6e8229c7a9ae075d4e90ee8b2a215b34be08", func := "psephos/psephoslaw06.MsgsUnlike", spec := "msgsUnlike", unfollowed := true, recurses := true, plainKeys := false, apart := false }
def MsgsUnlikeSaid : Prop := msgsUnlikeRow.holds Try.pinned (OpenSpec.ofChange msgsUnlikeSpec)

/-- ITS FALSE NEIGHBOUR: 'it returns false'. Refute it at one input. -/
def msgsUnlikeWrong : ChangeSpec := { name := "msgsUnlike", fn := fun _ => fun
  | [d1, d2, d3] => { results := [.lit (.bool false)], args := [d1, d2, d3] }
  | _ => none }
def MsgsUnlikeWrongFalsely : Prop := msgsUnlikeRow.holds Try.pinned (OpenSpec.ofChange msgsUnlikeWrong)

/-- 'psephoslaw06.MsgsParses': WHATEVER THE INPUT: true; the input reads as it did. -/
def msgsParsesSpec : ChangeSpec := { name := "msgsParses", fn := fun _ => fun
  | [d] => { results := [.lit (.bool true)], args := [d] }
  | _ => none }
def msgsParsesRow : OpenClaim := { program := "ytbebfgfpdcdcoaa", sum := "3320e5c177a1e33d93625fd7504c6e8229c7a9ae075d4e90ee8b2a215b34be08", func := "psephos/psephoslaw06.MsgsParses", spec := "msgsParses", unfollowed := true, recurses := true, plainKeys := false, apart := false }
def MsgsParsesSaid : Prop := msgsParsesRow.holds Try.pinned (OpenSpec.ofChange msgsParsesSpec)

/-- ITS FALSE NEIGHBOUR: 'it returns false'. Refute it at one input. -/
def msgsParsesWrong : ChangeSpec := { name := "msgsParses", fn := fun _ => fun
  | [d] => { results := [.lit (.bool false)], args := [d] }
  | _ => none }
def MsgsParsesWrongFalsely : Prop := msgsParsesRow.holds Try.pinned (OpenSpec.ofChange msgsParsesWrong)

/-- 'psephoslaw06.MsgsKinds': WHATEVER THE INPUT: true; the input reads as it did. -/
def msgsKindsSpec : ChangeSpec := { name := "msgsKinds", fn := fun _ => fun
  | [d1, d2, d3, d4, d5, d6, d7] => { results := [.lit (.bool true)], args := [d1, d2, d3, d4, d5, d6, d7] }
  | _ => none }
def msgsKindsRow : OpenClaim := { program := "ytbebfgfpdcdcoaa", sum := "3320e5c177a1e33d93625fd7504c6e8229c7a9ae075d4e90ee8b2a215b34be08", func := "psephos/psephoslaw06.MsgsKinds", spec := "msgsKinds", unfollowed := true, recurses := true, plainKeys := false, apart := false }
def MsgsKindsSaid : Prop := msgsKindsRow.holds Try.pinned (OpenSpec.ofChange msgsKindsSpec)

/-- ITS FALSE NEIGHBOUR: 'it returns false'. Refute it at one input. -/
def msgsKindsWrong : ChangeSpec := { name := "msgsKinds", fn := fun _ => fun
  | [d1, d2, d3, d4, d5, d6, d7] => { results := [.lit (.bool false)], args := [d1, d2, d3, d4, d5, d6, d7] }
  | _ => none }
def MsgsKindsWrongFalsely : Prop := msgsKindsRow.holds Try.pinned (OpenSpec.ofChange msgsKindsWrong)

/- THE SECOND FORM. 'bulk': how many values and letters a reading holds, each counted each time it is reached (what is shared counts as often as it is met; a slice's spare places count too). A statement '..UptoSaid' is the law's where the arguments, and the package variables that the reading takes, are together of bulk at most 1048576: NARROWER than '..Said'. Prove '..Said' where nothing that the law and all that it calls make is longer than what came in: it says more and counts as full. Else prove '..UptoSaid'. A law counts once. -/
mutual
def uptoBulk {H : Type} : DataW H → Nat
  | .lit (.string bytes) => bytes.length + 1
  | .lit _ => 1
  | .nil => 1
  | .ptr d => uptoBulk d + 1
  | .slice elems spare => uptoBulkAll elems + uptoBulkAll spare + 1
  | .agg parts => uptoBulkAll parts + 1
  | .iface _ d => uptoBulk d + 1
  | .map entries => uptoBulkEntries entries + 1
  | .held _ => 1
def uptoBulkAll {H : Type} : List (DataW H) → Nat
  | [] => 0
  | d :: r => uptoBulk d + uptoBulkAll r
def uptoBulkEntries {H : Type} : List (Lit × DataW H) → Nat
  | [] => 0
  | x :: r => uptoBulkEntry x + uptoBulkEntries r
def uptoBulkEntry {H : Type} : Lit × DataW H → Nat
  | (.string bytes, d) => bytes.length + uptoBulk d + 1
  | (_, d) => uptoBulk d + 1
 end
def uptoSmall : (H : Type) → List (DataW H) → Bool := fun _ ds => decide (uptoBulkAll ds ≤ 1048576)
def OpenSpec.upto (s : _root_.Go.ChangeSpec) : _root_.Go.OpenSpec := { _root_.Go.OpenSpec.ofChange s with cond := some uptoSmall }

/-- 'psephoslaw06.MsgsUnlike', WHERE WHAT IT READS IS OF BULK AT MOST 1048576: true; the input reads as it did. -/
def msgsUnlikeUptoRow : OpenClaim := { program := "ytbebfgfpdcdcoaa", sum := "3320e5c177a1e33d93625fd7504c6e8229c7a9ae075d4e90ee8b2a215b34be08", func := "psephos/psephoslaw06.MsgsUnlike", spec := "msgsUnlike", unfollowed := true, recurses := true, plainKeys := false, apart := false, narrowed := true }
def MsgsUnlikeUptoSaid : Prop := msgsUnlikeUptoRow.holds Try.pinned (OpenSpec.upto msgsUnlikeSpec)

/-- 'psephoslaw06.MsgsParses', WHERE WHAT IT READS IS OF BULK AT MOST 1048576: true; the input reads as it did. -/
def msgsParsesUptoRow : OpenClaim := { program := "ytbebfgfpdcdcoaa", sum := "3320e5c177a1e33d93625fd7504c6e8229c7a9ae075d4e90ee8b2a215b34be08", func := "psephos/psephoslaw06.MsgsParses", spec := "msgsParses", unfollowed := true, recurses := true, plainKeys := false, apart := false, narrowed := true }
def MsgsParsesUptoSaid : Prop := msgsParsesUptoRow.holds Try.pinned (OpenSpec.upto msgsParsesSpec)

/-- 'psephoslaw06.MsgsKinds', WHERE WHAT IT READS IS OF BULK AT MOST 1048576: true; the input reads as it did. -/
def msgsKindsUptoRow : OpenClaim := { program := "ytbebfgfpdcdcoaa", sum := "3320e5c177a1e33d93625fd7504c6e8229c7a9ae075d4e90ee8b2a215b34be08", func := "psephos/psephoslaw06.MsgsKinds", spec := "msgsKinds", unfollowed := true, recurses := true, plainKeys := false, apart := false, narrowed := true }
def MsgsKindsUptoSaid : Prop := msgsKindsUptoRow.holds Try.pinned (OpenSpec.upto msgsKindsSpec)

end Rows
end Go.Proofs.Ytbebfgfpdcdcoaa
