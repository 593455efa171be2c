/-
  No cell of these rows narrows 'for every input' (looked for: loops, veiled, ifaces, maps, wideKeys, modest, calm, conditions, laid).
  DERIVED. THE GIVEN ROWS OF THIS SEAT. 9 by the template 'for every input the law returns true; each argument reads behind the call as it read before'; 0 by the template 'total and deterministic' (their statements: YtbegjadohamkkaaGreatTotals.lean).
  GIVEN WITH THE SEED: the statements are not yours to turn. If you find one false, say at which input.
  Laid BY PROGRAM, IN A SANDBOX (cutbox-rows.mjs): the forced cells as the released guide's own fill.sh prints them over the translation bac4a3eb2b8b4180… (all of the seat's roots in one cut). By AI agents, Wed Nov 11 2026. No macro, syntax, notation, axiom, sorry.
-/
import Derived.Test.YtbegjadohamkkaaGreatChecked
import GoSem.Claim
import GoSem.ClaimJoined
import GoSem.ClaimMapViews
import Derived.JoinedTies
import Derived.KernelRfl
namespace Go.Proofs.YtbegjadohamkkaaGreat
/- THE CELL 'sum', in the pinned program and in every row, IS THE sha256 OF THE DUMP (.gsa) THAT YtbegjadohamkkaaGreatProg.lean LOADS. Nothing in Lean hashes anything: it is a label: what it is worth is what the hold of that sum in a sandbox is worth. -/
noncomputable def Tryz.pinned : Pinned := { name := "ytbegjadohamkkaagreat", sum := "bac4a3eb2b8b41800de130adc9239ffc83de4bbbb03ebc8c30ca218c685f9a01", checked := Tryz.checked }
namespace Rows
def none {H : Type} : Left H := { results := [], args := [] }

/-- 'psephoslaw06.MsgsProofs': WHATEVER THE INPUT: true; the input reads as it did. -/
def msgsProofsSpec : ChangeSpec := { name := "msgsProofs", fn := fun _ => fun
  | [d1, d2, d3, d4] => { results := [.lit (.bool true)], args := [d1, d2, d3, d4] }
  | _ => none }
def msgsProofsRow : OpenClaim := { program := "ytbegjadohamkkaagreat", sum := "bac4a3eb2b8b41800de130adc9239ffc83de4bbbb03ebc8c30ca218c685f9a01", func := "psephos/psephoslaw06.MsgsProofs", spec := "msgsProofs", unfollowed := true, recurses := true, plainKeys := false, apart := false }
def MsgsProofsSaid : Prop := msgsProofsRow.holds Tryz.pinned (OpenSpec.ofChange msgsProofsSpec)

/-- ITS FALSE NEIGHBOUR: 'it returns false'. Refute it at one input. -/
def msgsProofsWrong : ChangeSpec := { name := "msgsProofs", fn := fun _ => fun
  | [d1, d2, d3, d4] => { results := [.lit (.bool false)], args := [d1, d2, d3, d4] }
  | _ => none }
def MsgsProofsWrongFalsely : Prop := msgsProofsRow.holds Tryz.pinned (OpenSpec.ofChange msgsProofsWrong)

/-- 'psephoslaw06.MsgsOthers': WHATEVER THE INPUT: true; the input reads as it did. -/
def msgsOthersSpec : ChangeSpec := { name := "msgsOthers", fn := fun _ => fun
  | [d1, d2, d3] => { results := [.lit (.bool true)], args := [d1, d2, d3] }
  | _ => none }
def msgsOthersRow : OpenClaim := { program := "ytbegjadohamkkaagreat", sum := "bac4a3eb2b8b41800de130adc9239ffc83de4bbbb03ebc8c30ca218c685f9a01", func := "psephos/psephoslaw06.MsgsOthers", spec := "msgsOthers", unfollowed := true, recurses := true, plainKeys := false, apart := false }
def MsgsOthersSaid : Prop := msgsOthersRow.holds Tryz.pinned (OpenSpec.ofChange msgsOthersSpec)

/-- ITS FALSE NEIGHBOUR: 'it returns false'. Refute it at one input. -/
def msgsOthersWrong : ChangeSpec := { name := "msgsOthers", fn := fun _ => fun
  | [d1, d2, d3] => { results := [.lit (.bool false)], args := [d1, d2, d3] }
  | _ => none }
def MsgsOthersWrongFalsely : Prop := msgsOthersRow.holds Tryz.pinned (OpenSpec.ofChange msgsOthersWrong)

/-- 'psephoslaw06.MsgsSizes': WHATEVER THE INPUT: true; the input reads as it did. -/
def msgsSizesSpec : ChangeSpec := { name := "msgsSizes", fn := fun _ => fun
  | [d1, d2] => { results := [.lit (.bool true)], args := [d1, d2] }
  | _ => none }
def msgsSizesRow : OpenClaim := { program := "ytbegjadohamkkaagreat", sum := "bac4a3eb2b8b41800de130adc9239ffc83de4bbbb03ebc8c30ca218c685f9a01", func := "psephos/psephoslaw06.MsgsSizes", spec := "msgsSizes", unfollowed := true, recurses := true, plainKeys := false, apart := false }
def MsgsSizesSaid : Prop := msgsSizesRow.holds Tryz.pinned (OpenSpec.ofChange msgsSizesSpec)

/-- ITS FALSE NEIGHBOUR: 'it returns false'. Refute it at one input. -/
def msgsSizesWrong : ChangeSpec := { name := "msgsSizes", fn := fun _ => fun
  | [d1, d2] => { results := [.lit (.bool false)], args := [d1, d2] }
  | _ => none }
def MsgsSizesWrongFalsely : Prop := msgsSizesRow.holds Tryz.pinned (OpenSpec.ofChange msgsSizesWrong)

/-- 'psephoslaw06.MsgsBodies': WHATEVER THE INPUT: true; the input reads as it did. -/
def msgsBodiesSpec : ChangeSpec := { name := "msgsBodies", fn := fun _ => fun
  | [d] => { results := [.lit (.bool true)], args := [d] }
  | _ => none }
def msgsBodiesRow : OpenClaim := { program := "ytbegjadohamkkaagreat", sum := "bac4a3eb2b8b41800de130adc9239ffc83de4bbbb03ebc8c30ca218c685f9a01", func := "psephos/psephoslaw06.MsgsBodies", spec := "msgsBodies", unfollowed := true, recurses := true, plainKeys := false, apart := false }
def MsgsBodiesSaid : Prop := msgsBodiesRow.holds Tryz.pinned (OpenSpec.ofChange msgsBodiesSpec)

/-- ITS FALSE NEIGHBOUR: 'it returns false'. Refute it at one input. -/
def msgsBodiesWrong : ChangeSpec := { name := "msgsBodies", fn := fun _ => fun
  | [d] => { results := [.lit (.bool false)], args := [d] }
  | _ => none }
def MsgsBodiesWrongFalsely : Prop := msgsBodiesRow.holds Tryz.pinned (OpenSpec.ofChange msgsBodiesWrong)

/-- 'psephoslaw06.MsgsCerts': WHATEVER THE INPUT: true; the input reads as it did. -/
def msgsCertsSpec : ChangeSpec := { name := "msgsCerts", fn := fun _ => fun
  | [d1, d2, d3, d4, d5, d6, d7] => { results := [.lit (.bool true)], args := [d1, d2, d3, d4, d5, d6, d7] }
  | _ => none }
def msgsCertsRow : OpenClaim := { program := "ytbegjadohamkkaagreat", sum := "bac4a3eb2b8b41800de130adc9239ffc83de4bbbb03ebc8c30ca218c685f9a01", func := "psephos/psephoslaw06.MsgsCerts", spec := "msgsCerts", unfollowed := true, recurses := true, plainKeys := false, apart := false }
def MsgsCertsSaid : Prop := msgsCertsRow.holds Tryz.pinned (OpenSpec.ofChange msgsCertsSpec)

/-- ITS FALSE NEIGHBOUR: 'it returns false'. Refute it at one input. -/
def msgsCertsWrong : ChangeSpec := { name := "msgsCerts", fn := fun _ => fun
  | [d1, d2, d3, d4, d5, d6, d7] => { results := [.lit (.bool false)], args := [d1, d2, d3, d4, d5, d6, d7] }
  | _ => none }
def MsgsCertsWrongFalsely : Prop := msgsCertsRow.holds Tryz.pinned (OpenSpec.ofChange msgsCertsWrong)

/-- 'psephoslaw06.MsgsRaw': WHATEVER THE INPUT: true; the input reads as it did. -/
def msgsRawSpec : ChangeSpec := { name := "msgsRaw", fn := fun _ => fun
  | [d1, d2, d3, d4, d5, d6] => { results := [.lit (.bool true)], args := [d1, d2, d3, d4, d5, d6] }
  | _ => none }
def msgsRawRow : OpenClaim := { program := "ytbegjadohamkkaagreat", sum := "bac4a3eb2b8b41800de130adc9239ffc83de4bbbb03ebc8c30ca218c685f9a01", func := "psephos/psephoslaw06.MsgsRaw", spec := "msgsRaw", unfollowed := true, recurses := true, plainKeys := false, apart := false }
def MsgsRawSaid : Prop := msgsRawRow.holds Tryz.pinned (OpenSpec.ofChange msgsRawSpec)

/-- ITS FALSE NEIGHBOUR: 'it returns false'. Refute it at one input. -/
def msgsRawWrong : ChangeSpec := { name := "msgsRaw", fn := fun _ => fun
  | [d1, d2, d3, d4, d5, d6] => { results := [.lit (.bool false)], args := [d1, d2, d3, d4, d5, d6] }
  | _ => none }
def MsgsRawWrongFalsely : Prop := msgsRawRow.holds Tryz.pinned (OpenSpec.ofChange msgsRawWrong)

/-- 'psephoslaw06.MsgsViews': WHATEVER THE INPUT: true; the input reads as it did. -/
def msgsViewsSpec : ChangeSpec := { name := "msgsViews", fn := fun _ => fun
  | [d1, d2, d3, d4, d5, d6, d7] => { results := [.lit (.bool true)], args := [d1, d2, d3, d4, d5, d6, d7] }
  | _ => none }
def msgsViewsRow : OpenClaim := { program := "ytbegjadohamkkaagreat", sum := "bac4a3eb2b8b41800de130adc9239ffc83de4bbbb03ebc8c30ca218c685f9a01", func := "psephos/psephoslaw06.MsgsViews", spec := "msgsViews", unfollowed := true, recurses := true, plainKeys := false, apart := false }
def MsgsViewsSaid : Prop := msgsViewsRow.holds Tryz.pinned (OpenSpec.ofChange msgsViewsSpec)

/-- ITS FALSE NEIGHBOUR: 'it returns false'. Refute it at one input. -/
def msgsViewsWrong : ChangeSpec := { name := "msgsViews", fn := fun _ => fun
  | [d1, d2, d3, d4, d5, d6, d7] => { results := [.lit (.bool false)], args := [d1, d2, d3, d4, d5, d6, d7] }
  | _ => none }
def MsgsViewsWrongFalsely : Prop := msgsViewsRow.holds Tryz.pinned (OpenSpec.ofChange msgsViewsWrong)

/-- 'psephoslaw06.MsgsOpens': WHATEVER THE INPUT: true; the input reads as it did. -/
def msgsOpensSpec : ChangeSpec := { name := "msgsOpens", fn := fun _ => fun
  | [d1, d2, d3, d4, d5] => { results := [.lit (.bool true)], args := [d1, d2, d3, d4, d5] }
  | _ => none }
def msgsOpensRow : OpenClaim := { program := "ytbegjadohamkkaagreat", sum := "bac4a3eb2b8b41800de130adc9239ffc83de4bbbb03ebc8c30ca218c685f9a01", func := "psephos/psephoslaw06.MsgsOpens", spec := "msgsOpens", unfollowed := true, recurses := true, plainKeys := false, apart := false }
def MsgsOpensSaid : Prop := msgsOpensRow.holds Tryz.pinned (OpenSpec.ofChange msgsOpensSpec)

/-- ITS FALSE NEIGHBOUR: 'it returns false'. Refute it at one input. -/
def msgsOpensWrong : ChangeSpec := { name := "msgsOpens", fn := fun _ => fun
  | [d1, d2, d3, d4, d5] => { results := [.lit (.bool false)], args := [d1, d2, d3, d4, d5] }
  | _ => none }
def MsgsOpensWrongFalsely : Prop := msgsOpensRow.holds Tryz.pinned (OpenSpec.ofChange msgsOpensWrong)

/-- 'psephoslaw06.MsgsAny': WHATEVER THE INPUT: true; the input reads as it did. -/
def msgsAnySpec : ChangeSpec := { name := "msgsAny", fn := fun _ => fun
  | [d1, d2, d3, d4] => { results := [.lit (.bool true)], args := [d1, d2, d3, d4] }
  | _ => none }
def msgsAnyRow : OpenClaim := { program := "ytbegjadohamkkaagreat", sum := "bac4a3eb2b8b41800de130adc9239ffc83de4bbbb03ebc8c30ca218c685f9a01", func := "psephos/psephoslaw06.MsgsAny", spec := "msgsAny", unfollowed := true, recurses := true, plainKeys := false, apart := false }
def MsgsAnySaid : Prop := msgsAnyRow.holds Tryz.pinned (OpenSpec.ofChange msgsAnySpec)

/-- ITS FALSE NEIGHBOUR: 'it returns false'. Refute it at one input. -/
def msgsAnyWrong : ChangeSpec := { name := "msgsAny", fn := fun _ => fun
  | [d1, d2, d3, d4] => { results := [.lit (.bool false)], args := [d1, d2, d3, d4] }
  | _ => none }
def MsgsAnyWrongFalsely : Prop := msgsAnyRow.holds Tryz.pinned (OpenSpec.ofChange msgsAnyWrong)

/- THE SECOND FORM. 'bulk': how many values and letters a reading holds, each counted each time it is reached (what is shared counts as often as it is met; a slice's spare places count too). A statement '..UptoSaid' is the law's where the arguments, and the package variables that the reading takes, are together of bulk at most 1048576: NARROWER than '..Said'. Prove '..Said' where nothing that the law and all that it calls make is longer than what came in: it says more and counts as full. Else prove '..UptoSaid'. A law counts once. -/
mutual
def uptoBulk {H : Type} : DataW H → Nat
  | .lit (.string bytes) => bytes.length + 1
  | .lit _ => 1
  | .nil => 1
  | .ptr d => uptoBulk d + 1
  | .slice elems spare => uptoBulkAll elems + uptoBulkAll spare + 1
  | .agg parts => uptoBulkAll parts + 1
  | .iface _ d => uptoBulk d + 1
  | .map entries => uptoBulkEntries entries + 1
  | .held _ => 1
def uptoBulkAll {H : Type} : List (DataW H) → Nat
  | [] => 0
  | d :: r => uptoBulk d + uptoBulkAll r
def uptoBulkEntries {H : Type} : List (Lit × DataW H) → Nat
  | [] => 0
  | x :: r => uptoBulkEntry x + uptoBulkEntries r
def uptoBulkEntry {H : Type} : Lit × DataW H → Nat
  | (.string bytes, d) => bytes.length + uptoBulk d + 1
  | (_, d) => uptoBulk d + 1
 end
def uptoSmall : (H : Type) → List (DataW H) → Bool := fun _ ds => decide (uptoBulkAll ds ≤ 1048576)
def OpenSpec.upto (s : _root_.Go.ChangeSpec) : _root_.Go.OpenSpec := { _root_.Go.OpenSpec.ofChange s with cond := some uptoSmall }

/-- 'psephoslaw06.MsgsProofs', WHERE WHAT IT READS IS OF BULK AT MOST 1048576: true; the input reads as it did. -/
def msgsProofsUptoRow : OpenClaim := { program := "ytbegjadohamkkaagreat", sum := "bac4a3eb2b8b41800de130adc9239ffc83de4bbbb03ebc8c30ca218c685f9a01", func := "psephos/psephoslaw06.MsgsProofs", spec := "msgsProofs", unfollowed := true, recurses := true, plainKeys := false, apart := false, narrowed := true }
def MsgsProofsUptoSaid : Prop := msgsProofsUptoRow.holds Tryz.pinned (OpenSpec.upto msgsProofsSpec)

/-- 'psephoslaw06.MsgsOthers', WHERE WHAT IT READS IS OF BULK AT MOST 1048576: true; the input reads as it did. -/
def msgsOthersUptoRow : OpenClaim := { program := "ytbegjadohamkkaagreat", sum := "bac4a3eb2b8b41800de130adc9239ffc83de4bbbb03ebc8c30ca218c685f9a01", func := "psephos/psephoslaw06.MsgsOthers", spec := "msgsOthers", unfollowed := true, recurses := true, plainKeys := false, apart := false, narrowed := true }
def MsgsOthersUptoSaid : Prop := msgsOthersUptoRow.holds Tryz.pinned (OpenSpec.upto msgsOthersSpec)

/-- 'psephoslaw06.MsgsSizes', WHERE WHAT IT READS IS OF BULK AT MOST 1048576: true; the input reads as it did. -/
def msgsSizesUptoRow : OpenClaim := { program := "ytbegjadohamkkaagreat", sum := "bac4a3eb2b8b41800de130adc9239ffc83de4bbbb03ebc8c30ca218c685f9a01", func := "psephos/psephoslaw06.MsgsSizes", spec := "msgsSizes", unfollowed := true, recurses := true, plainKeys := false, apart := false, narrowed := true }
def MsgsSizesUptoSaid : Prop := msgsSizesUptoRow.holds Tryz.pinned (OpenSpec.upto msgsSizesSpec)

/-- 'psephoslaw06.MsgsBodies', WHERE WHAT IT READS IS OF BULK AT MOST 1048576: true; the input reads as it did. -/
def msgsBodiesUptoRow : OpenClaim := { program := "ytbegjadohamkkaagreat", sum := "bac4a3eb2b8b41800de130adc9239ffc83de4bbbb03ebc8c30ca218c685f9a01", func := "psephos/psephoslaw06.MsgsBodies", spec := "msgsBodies", unfollowed := true, recurses := true, plainKeys := false, apart := false, narrowed := true }
def MsgsBodiesUptoSaid : Prop := msgsBodiesUptoRow.holds Tryz.pinned (OpenSpec.upto msgsBodiesSpec)

/-- 'psephoslaw06.MsgsCerts', WHERE WHAT IT READS IS OF BULK AT MOST 1048576: true; the input reads as it did. -/
def msgsCertsUptoRow : OpenClaim := { program := "ytbegjadohamkkaagreat", sum := "bac4a3eb2b8b41800de130adc9239ffc83de4bbbb03ebc8c30ca218c685f9a01", func := "psephos/psephoslaw06.MsgsCerts", spec := "msgsCerts", unfollowed := true, recurses := true, plainKeys := false, apart := false, narrowed := true }
def MsgsCertsUptoSaid : Prop := msgsCertsUptoRow.holds Tryz.pinned (OpenSpec.upto msgsCertsSpec)

/-- 'psephoslaw06.MsgsRaw', WHERE WHAT IT READS IS OF BULK AT MOST 1048576: true; the input reads as it did. -/
def msgsRawUptoRow : OpenClaim := { program := "ytbegjadohamkkaagreat", sum := "bac4a3eb2b8b41800de130adc9239ffc83de4bbbb03ebc8c30ca218c685f9a01", func := "psephos/psephoslaw06.MsgsRaw", spec := "msgsRaw", unfollowed := true, recurses := true, plainKeys := false, apart := false, narrowed := true }
def MsgsRawUptoSaid : Prop := msgsRawUptoRow.holds Tryz.pinned (OpenSpec.upto msgsRawSpec)

/-- 'psephoslaw06.MsgsViews', WHERE WHAT IT READS IS OF BULK AT MOST 1048576: true; the input reads as it did. -/
def msgsViewsUptoRow : OpenClaim := { program := "ytbegjadohamkkaagreat", sum := "bac4a3eb2b8b41800de130adc9239ffc83de4bbbb03ebc8c30ca218c685f9a01", func := "psephos/psephoslaw06.MsgsViews", spec := "msgsViews", unfollowed := true, recurses := true, plainKeys := false, apart := false, narrowed := true }
def MsgsViewsUptoSaid : Prop := msgsViewsUptoRow.holds Tryz.pinned (OpenSpec.upto msgsViewsSpec)

/-- 'psephoslaw06.MsgsOpens', WHERE WHAT IT READS IS OF BULK AT MOST 1048576: true; the input reads as it did. -/
def msgsOpensUptoRow : OpenClaim := { program := "ytbegjadohamkkaagreat", sum := "bac4a3eb2b8b41800de130adc9239ffc83de4bbbb03ebc8c30ca218c685f9a01", func := "psephos/psephoslaw06.MsgsOpens", spec := "msgsOpens", unfollowed := true, recurses := true, plainKeys := false, apart := false, narrowed := true }
def MsgsOpensUptoSaid : Prop := msgsOpensUptoRow.holds Tryz.pinned (OpenSpec.upto msgsOpensSpec)

/-- 'psephoslaw06.MsgsAny', WHERE WHAT IT READS IS OF BULK AT MOST 1048576: true; the input reads as it did. -/
def msgsAnyUptoRow : OpenClaim := { program := "ytbegjadohamkkaagreat", sum := "bac4a3eb2b8b41800de130adc9239ffc83de4bbbb03ebc8c30ca218c685f9a01", func := "psephos/psephoslaw06.MsgsAny", spec := "msgsAny", unfollowed := true, recurses := true, plainKeys := false, apart := false, narrowed := true }
def MsgsAnyUptoSaid : Prop := msgsAnyUptoRow.holds Tryz.pinned (OpenSpec.upto msgsAnySpec)

end Rows
end Go.Proofs.YtbegjadohamkkaaGreat
