/- The contracts of keep.Cert, keep.Certs, keep.Parts: whether two are the same. -/
import Derived.Test.YtfbipebijelfjaaSameVotes
import Derived.StillTailTactics
namespace Go.Proofs.Ytfbipebijelfjaa
open Go.RowKit

theorem sameL_true {α : Type} [DecidableEq α] {l m : List α} : sameL l m = true ↔ l = m := by simp [sameL]
theorem same_votes_is {A A' : Option Addr} {c c' la lb : Nat} {zs ys : List Vt} {B : Nat} {r : Bool} (ha : zs.length = la) (hb : ys.length = lb) (hl : la ≤ 9223372036854775806) (hr : sameL zs ys = r) (w : World) (h1 : Has w B A (voteCells zs)) (h2 : Has w B A' (voteCells ys)) :
    Calls Try.prog 27 #[.slice A la c, .slice A' lb c'] w fun e w' => e = .returned (.bool r) ∧ ∃ nq, w' = w.drewN nq := by
  subst ha; subst hb; subst hr
  exact same_votes A A' c c' zs ys B w hl h1 h2
theorem Has.two {w : World} {B : Nat} {A : Option Addr} {xs : List Value} (h : Has w B A xs) (hB : B ≤ w.heap.size) (o1 o2 : Obj) : Has ((w.alloc o1).alloc o2) B A xs :=
  (h.below ((Below.refl B w).alloc hB o1) (Nat.le_refl _)).below ((Below.refl B (w.alloc o1)).alloc (by simp; omega) o2) (Nat.le_refl _)
def smallCert (c : Ct) : Prop := c.bt.length ≤ 9223372036854775806 ∧ c.vs.length ≤ 9223372036854775806

theorem Below.reads {w w' : World} (hb : Below w.heap.size w w') {B : Nat} (hB : B ≤ w.heap.size) : Reads B B w w' := Reads.below hb hB

end Go.Proofs.Ytfbipebijelfjaa
