/-
  No cell of these rows narrows 'for every input' (looked for: loops, veiled, ifaces, maps, wideKeys, modest, calm, conditions, laid).
  DERIVED. THE GIVEN ROWS OF THIS SEAT. 9 by the template 'for every input the law returns true; each argument reads behind the call as it read before'; 0 by the template 'total and deterministic' (their statements: YtpjcedilkahpiaaTotals.lean).
  GIVEN WITH THE SEED: the statements are not yours to turn. If you find one false, say at which input.
  Laid BY PROGRAM, IN A SANDBOX (cutbox-rows.mjs): the forced cells as the released guide's own fill.sh prints them over the translation 2d0ed882ce33ac99… (all of the seat's roots in one cut). By AI agents, Wed Nov 11 2026. No macro, syntax, notation, axiom, sorry.
-/
import Derived.Test.YtpjcedilkahpiaaChecked
import GoSem.Claim
import GoSem.ClaimJoined
import GoSem.ClaimMapViews
import Derived.JoinedTies
import Derived.KernelRfl
namespace Go.Proofs.Ytpjcedilkahpiaa
/- THE CELL 'sum', in the pinned program and in every row, IS THE sha256 OF THE DUMP (.gsa) THAT YtpjcedilkahpiaaProg.lean LOADS. Nothing in Lean hashes anything: it is a label: what it is worth is what the hold of that sum in a sandbox is worth. -/
noncomputable def Try.pinned : Pinned := { name := "ytpjcedilkahpiaa", sum := "2d0ed882ce33ac99a1c56d6718d7b3bdb583b32efbe162129d0bf352a2a80e86", checked := Try.checked }
namespace Rows
def none {H : Type} : Left H := { results := [], args := [] }

/-- 'psephoslaw12.LedgerReplies': WHATEVER THE INPUT: true; the input reads as it did. -/
def ledgerRepliesSpec : ChangeSpec := { name := "ledgerReplies", fn := fun _ => fun
  | [d1, d2] => { results := [.lit (.bool true)], args := [d1, d2] }
  | _ => none }
def ledgerRepliesRow : OpenClaim := { program := "ytpjcedilkahpiaa", sum := "2d0ed882ce33ac99a1c56d6718d7b3bdb583b32efbe162129d0bf352a2a80e86", func := "psephos/psephoslaw12.LedgerReplies", spec := "ledgerReplies", inPlace := ["maps.clone"], apart := false }
def LedgerRepliesSaid : Prop := ledgerRepliesRow.holds Try.pinned (OpenSpec.ofChange ledgerRepliesSpec)

/-- ITS FALSE NEIGHBOUR: 'it returns false'. Refute it at one input. -/
def ledgerRepliesWrong : ChangeSpec := { name := "ledgerReplies", fn := fun _ => fun
  | [d1, d2] => { results := [.lit (.bool false)], args := [d1, d2] }
  | _ => none }
def LedgerRepliesWrongFalsely : Prop := ledgerRepliesRow.holds Try.pinned (OpenSpec.ofChange ledgerRepliesWrong)

/-- 'psephoslaw12.LedgerTurned': WHATEVER THE INPUT: true; the input reads as it did. -/
def ledgerTurnedSpec : ChangeSpec := { name := "ledgerTurned", fn := fun _ => fun
  | [d1, d2] => { results := [.lit (.bool true)], args := [d1, d2] }
  | _ => none }
def ledgerTurnedRow : OpenClaim := { program := "ytpjcedilkahpiaa", sum := "2d0ed882ce33ac99a1c56d6718d7b3bdb583b32efbe162129d0bf352a2a80e86", func := "psephos/psephoslaw12.LedgerTurned", spec := "ledgerTurned", apart := false }
def LedgerTurnedSaid : Prop := ledgerTurnedRow.holds Try.pinned (OpenSpec.ofChange ledgerTurnedSpec)

/-- ITS FALSE NEIGHBOUR: 'it returns false'. Refute it at one input. -/
def ledgerTurnedWrong : ChangeSpec := { name := "ledgerTurned", fn := fun _ => fun
  | [d1, d2] => { results := [.lit (.bool false)], args := [d1, d2] }
  | _ => none }
def LedgerTurnedWrongFalsely : Prop := ledgerTurnedRow.holds Try.pinned (OpenSpec.ofChange ledgerTurnedWrong)

/-- 'psephoslaw12.LedgerRuns': WHATEVER THE INPUT: true; the input reads as it did. -/
def ledgerRunsSpec : ChangeSpec := { name := "ledgerRuns", fn := fun _ => fun
  | [d1, d2] => { results := [.lit (.bool true)], args := [d1, d2] }
  | _ => none }
def ledgerRunsRow : OpenClaim := { program := "ytpjcedilkahpiaa", sum := "2d0ed882ce33ac99a1c56d6718d7b3bdb583b32efbe162129d0bf352a2a80e86", func := "psephos/psephoslaw12.LedgerRuns", spec := "ledgerRuns", inPlace := ["maps.clone"], apart := false }
def LedgerRunsSaid : Prop := ledgerRunsRow.holds Try.pinned (OpenSpec.ofChange ledgerRunsSpec)

/-- ITS FALSE NEIGHBOUR: 'it returns false'. Refute it at one input. -/
def ledgerRunsWrong : ChangeSpec := { name := "ledgerRuns", fn := fun _ => fun
  | [d1, d2] => { results := [.lit (.bool false)], args := [d1, d2] }
  | _ => none }
def LedgerRunsWrongFalsely : Prop := ledgerRunsRow.holds Try.pinned (OpenSpec.ofChange ledgerRunsWrong)

/-- 'psephoslaw12.LedgerFolds': WHATEVER THE INPUT: true; the input reads as it did. -/
def ledgerFoldsSpec : ChangeSpec := { name := "ledgerFolds", fn := fun _ => fun
  | [d1, d2, d3] => { results := [.lit (.bool true)], args := [d1, d2, d3] }
  | _ => none }
def ledgerFoldsRow : OpenClaim := { program := "ytpjcedilkahpiaa", sum := "2d0ed882ce33ac99a1c56d6718d7b3bdb583b32efbe162129d0bf352a2a80e86", func := "psephos/psephoslaw12.LedgerFolds", spec := "ledgerFolds", apart := false }
def LedgerFoldsSaid : Prop := ledgerFoldsRow.holds Try.pinned (OpenSpec.ofChange ledgerFoldsSpec)

/-- ITS FALSE NEIGHBOUR: 'it returns false'. Refute it at one input. -/
def ledgerFoldsWrong : ChangeSpec := { name := "ledgerFolds", fn := fun _ => fun
  | [d1, d2, d3] => { results := [.lit (.bool false)], args := [d1, d2, d3] }
  | _ => none }
def LedgerFoldsWrongFalsely : Prop := ledgerFoldsRow.holds Try.pinned (OpenSpec.ofChange ledgerFoldsWrong)

/-- 'psephoslaw12.LedgerPrefixes': WHATEVER THE INPUT: true; the input reads as it did. -/
def ledgerPrefixesSpec : ChangeSpec := { name := "ledgerPrefixes", fn := fun _ => fun
  | [d1, d2, d3] => { results := [.lit (.bool true)], args := [d1, d2, d3] }
  | _ => none }
def ledgerPrefixesRow : OpenClaim := { program := "ytpjcedilkahpiaa", sum := "2d0ed882ce33ac99a1c56d6718d7b3bdb583b32efbe162129d0bf352a2a80e86", func := "psephos/psephoslaw12.LedgerPrefixes", spec := "ledgerPrefixes", apart := false }
def LedgerPrefixesSaid : Prop := ledgerPrefixesRow.holds Try.pinned (OpenSpec.ofChange ledgerPrefixesSpec)

/-- ITS FALSE NEIGHBOUR: 'it returns false'. Refute it at one input. -/
def ledgerPrefixesWrong : ChangeSpec := { name := "ledgerPrefixes", fn := fun _ => fun
  | [d1, d2, d3] => { results := [.lit (.bool false)], args := [d1, d2, d3] }
  | _ => none }
def LedgerPrefixesWrongFalsely : Prop := ledgerPrefixesRow.holds Try.pinned (OpenSpec.ofChange ledgerPrefixesWrong)

/-- 'psephoslaw12.LedgerClones': WHATEVER THE INPUT: true; the input reads as it did. -/
def ledgerClonesSpec : ChangeSpec := { name := "ledgerClones", fn := fun _ => fun
  | [d1, d2, d3, d4] => { results := [.lit (.bool true)], args := [d1, d2, d3, d4] }
  | _ => none }
def ledgerClonesRow : OpenClaim := { program := "ytpjcedilkahpiaa", sum := "2d0ed882ce33ac99a1c56d6718d7b3bdb583b32efbe162129d0bf352a2a80e86", func := "psephos/psephoslaw12.LedgerClones", spec := "ledgerClones", inPlace := ["maps.clone"], apart := false }
def LedgerClonesSaid : Prop := ledgerClonesRow.holds Try.pinned (OpenSpec.ofChange ledgerClonesSpec)

/-- ITS FALSE NEIGHBOUR: 'it returns false'. Refute it at one input. -/
def ledgerClonesWrong : ChangeSpec := { name := "ledgerClones", fn := fun _ => fun
  | [d1, d2, d3, d4] => { results := [.lit (.bool false)], args := [d1, d2, d3, d4] }
  | _ => none }
def LedgerClonesWrongFalsely : Prop := ledgerClonesRow.holds Try.pinned (OpenSpec.ofChange ledgerClonesWrong)

/-- 'psephoslaw12.LedgerOnce': WHATEVER THE INPUT: true; the input reads as it did. -/
def ledgerOnceSpec : ChangeSpec := { name := "ledgerOnce", fn := fun _ => fun
  | [d1, d2] => { results := [.lit (.bool true)], args := [d1, d2] }
  | _ => none }
def ledgerOnceRow : OpenClaim := { program := "ytpjcedilkahpiaa", sum := "2d0ed882ce33ac99a1c56d6718d7b3bdb583b32efbe162129d0bf352a2a80e86", func := "psephos/psephoslaw12.LedgerOnce", spec := "ledgerOnce", apart := false }
def LedgerOnceSaid : Prop := ledgerOnceRow.holds Try.pinned (OpenSpec.ofChange ledgerOnceSpec)

/-- ITS FALSE NEIGHBOUR: 'it returns false'. Refute it at one input. -/
def ledgerOnceWrong : ChangeSpec := { name := "ledgerOnce", fn := fun _ => fun
  | [d1, d2] => { results := [.lit (.bool false)], args := [d1, d2] }
  | _ => none }
def LedgerOnceWrongFalsely : Prop := ledgerOnceRow.holds Try.pinned (OpenSpec.ofChange ledgerOnceWrong)

/-- 'psephoslaw12.LedgerMore': WHATEVER THE INPUT: true; the input reads as it did. -/
def ledgerMoreSpec : ChangeSpec := { name := "ledgerMore", fn := fun _ => fun
  | [d1, d2, d3] => { results := [.lit (.bool true)], args := [d1, d2, d3] }
  | _ => none }
def ledgerMoreRow : OpenClaim := { program := "ytpjcedilkahpiaa", sum := "2d0ed882ce33ac99a1c56d6718d7b3bdb583b32efbe162129d0bf352a2a80e86", func := "psephos/psephoslaw12.LedgerMore", spec := "ledgerMore", apart := false }
def LedgerMoreSaid : Prop := ledgerMoreRow.holds Try.pinned (OpenSpec.ofChange ledgerMoreSpec)

/-- ITS FALSE NEIGHBOUR: 'it returns false'. Refute it at one input. -/
def ledgerMoreWrong : ChangeSpec := { name := "ledgerMore", fn := fun _ => fun
  | [d1, d2, d3] => { results := [.lit (.bool false)], args := [d1, d2, d3] }
  | _ => none }
def LedgerMoreWrongFalsely : Prop := ledgerMoreRow.holds Try.pinned (OpenSpec.ofChange ledgerMoreWrong)

/-- 'psephoslaw12.LedgerApart': WHATEVER THE INPUT: true; the input reads as it did. -/
def ledgerApartSpec : ChangeSpec := { name := "ledgerApart", fn := fun _ => fun
  | [d1, d2] => { results := [.lit (.bool true)], args := [d1, d2] }
  | _ => none }
def ledgerApartRow : OpenClaim := { program := "ytpjcedilkahpiaa", sum := "2d0ed882ce33ac99a1c56d6718d7b3bdb583b32efbe162129d0bf352a2a80e86", func := "psephos/psephoslaw12.LedgerApart", spec := "ledgerApart", apart := false }
def LedgerApartSaid : Prop := ledgerApartRow.holds Try.pinned (OpenSpec.ofChange ledgerApartSpec)

/-- ITS FALSE NEIGHBOUR: 'it returns false'. Refute it at one input. -/
def ledgerApartWrong : ChangeSpec := { name := "ledgerApart", fn := fun _ => fun
  | [d1, d2] => { results := [.lit (.bool false)], args := [d1, d2] }
  | _ => none }
def LedgerApartWrongFalsely : Prop := ledgerApartRow.holds Try.pinned (OpenSpec.ofChange ledgerApartWrong)

/- THE SECOND FORM. 'bulk': how many values and letters a reading holds, each counted each time it is reached (what is shared counts as often as it is met; a slice's spare places count too). A statement '..UptoSaid' is the law's where the arguments, and the package variables that the reading takes, are together of bulk at most 1048576: NARROWER than '..Said'. Prove '..Said' where nothing that the law and all that it calls make is longer than what came in: it says more and counts as full. Else prove '..UptoSaid'. A law counts once. -/
mutual
def uptoBulk {H : Type} : DataW H → Nat
  | .lit (.string bytes) => bytes.length + 1
  | .lit _ => 1
  | .nil => 1
  | .ptr d => uptoBulk d + 1
  | .slice elems spare => uptoBulkAll elems + uptoBulkAll spare + 1
  | .agg parts => uptoBulkAll parts + 1
  | .iface _ d => uptoBulk d + 1
  | .map entries => uptoBulkEntries entries + 1
  | .held _ => 1
def uptoBulkAll {H : Type} : List (DataW H) → Nat
  | [] => 0
  | d :: r => uptoBulk d + uptoBulkAll r
def uptoBulkEntries {H : Type} : List (Lit × DataW H) → Nat
  | [] => 0
  | x :: r => uptoBulkEntry x + uptoBulkEntries r
def uptoBulkEntry {H : Type} : Lit × DataW H → Nat
  | (.string bytes, d) => bytes.length + uptoBulk d + 1
  | (_, d) => uptoBulk d + 1
 end
def uptoSmall : (H : Type) → List (DataW H) → Bool := fun _ ds => decide (uptoBulkAll ds ≤ 1048576)
def OpenSpec.upto (s : _root_.Go.ChangeSpec) : _root_.Go.OpenSpec := { _root_.Go.OpenSpec.ofChange s with cond := some uptoSmall }

/-- 'psephoslaw12.LedgerReplies', WHERE WHAT IT READS IS OF BULK AT MOST 1048576: true; the input reads as it did. -/
def ledgerRepliesUptoRow : OpenClaim := { program := "ytpjcedilkahpiaa", sum := "2d0ed882ce33ac99a1c56d6718d7b3bdb583b32efbe162129d0bf352a2a80e86", func := "psephos/psephoslaw12.LedgerReplies", spec := "ledgerReplies", inPlace := ["maps.clone"], apart := false, narrowed := true }
def LedgerRepliesUptoSaid : Prop := ledgerRepliesUptoRow.holds Try.pinned (OpenSpec.upto ledgerRepliesSpec)

/-- 'psephoslaw12.LedgerTurned', WHERE WHAT IT READS IS OF BULK AT MOST 1048576: true; the input reads as it did. -/
def ledgerTurnedUptoRow : OpenClaim := { program := "ytpjcedilkahpiaa", sum := "2d0ed882ce33ac99a1c56d6718d7b3bdb583b32efbe162129d0bf352a2a80e86", func := "psephos/psephoslaw12.LedgerTurned", spec := "ledgerTurned", apart := false, narrowed := true }
def LedgerTurnedUptoSaid : Prop := ledgerTurnedUptoRow.holds Try.pinned (OpenSpec.upto ledgerTurnedSpec)

/-- 'psephoslaw12.LedgerRuns', WHERE WHAT IT READS IS OF BULK AT MOST 1048576: true; the input reads as it did. -/
def ledgerRunsUptoRow : OpenClaim := { program := "ytpjcedilkahpiaa", sum := "2d0ed882ce33ac99a1c56d6718d7b3bdb583b32efbe162129d0bf352a2a80e86", func := "psephos/psephoslaw12.LedgerRuns", spec := "ledgerRuns", inPlace := ["maps.clone"], apart := false, narrowed := true }
def LedgerRunsUptoSaid : Prop := ledgerRunsUptoRow.holds Try.pinned (OpenSpec.upto ledgerRunsSpec)

/-- 'psephoslaw12.LedgerFolds', WHERE WHAT IT READS IS OF BULK AT MOST 1048576: true; the input reads as it did. -/
def ledgerFoldsUptoRow : OpenClaim := { program := "ytpjcedilkahpiaa", sum := "2d0ed882ce33ac99a1c56d6718d7b3bdb583b32efbe162129d0bf352a2a80e86", func := "psephos/psephoslaw12.LedgerFolds", spec := "ledgerFolds", apart := false, narrowed := true }
def LedgerFoldsUptoSaid : Prop := ledgerFoldsUptoRow.holds Try.pinned (OpenSpec.upto ledgerFoldsSpec)

/-- 'psephoslaw12.LedgerPrefixes', WHERE WHAT IT READS IS OF BULK AT MOST 1048576: true; the input reads as it did. -/
def ledgerPrefixesUptoRow : OpenClaim := { program := "ytpjcedilkahpiaa", sum := "2d0ed882ce33ac99a1c56d6718d7b3bdb583b32efbe162129d0bf352a2a80e86", func := "psephos/psephoslaw12.LedgerPrefixes", spec := "ledgerPrefixes", apart := false, narrowed := true }
def LedgerPrefixesUptoSaid : Prop := ledgerPrefixesUptoRow.holds Try.pinned (OpenSpec.upto ledgerPrefixesSpec)

/-- 'psephoslaw12.LedgerClones', WHERE WHAT IT READS IS OF BULK AT MOST 1048576: true; the input reads as it did. -/
def ledgerClonesUptoRow : OpenClaim := { program := "ytpjcedilkahpiaa", sum := "2d0ed882ce33ac99a1c56d6718d7b3bdb583b32efbe162129d0bf352a2a80e86", func := "psephos/psephoslaw12.LedgerClones", spec := "ledgerClones", inPlace := ["maps.clone"], apart := false, narrowed := true }
def LedgerClonesUptoSaid : Prop := ledgerClonesUptoRow.holds Try.pinned (OpenSpec.upto ledgerClonesSpec)

/-- 'psephoslaw12.LedgerOnce', WHERE WHAT IT READS IS OF BULK AT MOST 1048576: true; the input reads as it did. -/
def ledgerOnceUptoRow : OpenClaim := { program := "ytpjcedilkahpiaa", sum := "2d0ed882ce33ac99a1c56d6718d7b3bdb583b32efbe162129d0bf352a2a80e86", func := "psephos/psephoslaw12.LedgerOnce", spec := "ledgerOnce", apart := false, narrowed := true }
def LedgerOnceUptoSaid : Prop := ledgerOnceUptoRow.holds Try.pinned (OpenSpec.upto ledgerOnceSpec)

/-- 'psephoslaw12.LedgerMore', WHERE WHAT IT READS IS OF BULK AT MOST 1048576: true; the input reads as it did. -/
def ledgerMoreUptoRow : OpenClaim := { program := "ytpjcedilkahpiaa", sum := "2d0ed882ce33ac99a1c56d6718d7b3bdb583b32efbe162129d0bf352a2a80e86", func := "psephos/psephoslaw12.LedgerMore", spec := "ledgerMore", apart := false, narrowed := true }
def LedgerMoreUptoSaid : Prop := ledgerMoreUptoRow.holds Try.pinned (OpenSpec.upto ledgerMoreSpec)

/-- 'psephoslaw12.LedgerApart', WHERE WHAT IT READS IS OF BULK AT MOST 1048576: true; the input reads as it did. -/
def ledgerApartUptoRow : OpenClaim := { program := "ytpjcedilkahpiaa", sum := "2d0ed882ce33ac99a1c56d6718d7b3bdb583b32efbe162129d0bf352a2a80e86", func := "psephos/psephoslaw12.LedgerApart", spec := "ledgerApart", apart := false, narrowed := true }
def LedgerApartUptoSaid : Prop := ledgerApartUptoRow.holds Try.pinned (OpenSpec.upto ledgerApartSpec)

end Rows
end Go.Proofs.Ytpjcedilkahpiaa
