/- The contracts of keep.Cert, keep.Certs, keep.Parts: whether two are the same. -/
import Derived.Test.YtiffmjfbdidgkaaGreatOS1
import Derived.StillTailTactics
namespace Go.Proofs.YtiffmjfbdidgkaaGreat
open Go.RowKit

theorem Has.two {w : World} {B : Nat} {A : Option Addr} {xs : List Value} (h : Has w B A xs) (hB : B ≤ w.heap.size) (o1 o2 : Obj) : Has ((w.alloc o1).alloc o2) B A xs :=
  (h.below ((Below.refl B w).alloc hB o1) (Nat.le_refl _)).below ((Below.refl B (w.alloc o1)).alloc (by simp; omega) o2) (Nat.le_refl _)
theorem Below.reads {w w' : World} (hb : Below w.heap.size w w') {B : Nat} (hB : B ≤ w.heap.size) : Reads B B w w' := Reads.below hb hB

end Go.Proofs.YtiffmjfbdidgkaaGreat
