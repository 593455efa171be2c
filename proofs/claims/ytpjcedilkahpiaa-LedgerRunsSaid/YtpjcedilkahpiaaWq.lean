/- Regions that draw their order, only read, and hold guards: one operation at a time, behind a word of its own. -/
import Derived.Test.YtpjcedilkahpiaaGears
import Derived.Lib.QuietBelow
import Derived.BigQuiet
namespace Go.Proofs.Ytpjcedilkahpiaa
open Go.RowKit Go.Sort

/-- (Behind a word of its own: Lean would reckon the guards out at each step.) -/
structure Wq (P : Program) (ops : Array Oper) (C : World → Prop) (Q : Act → Prop) (l : List Oper) (a : Act) : Prop where
  out : wpQuiet P ops C Q l a
theorem wq_out {P : Program} {ops : Array Oper} {C : World → Prop} {Q : Act → Prop} {a : Act} {l : List Oper} (h : Wq P ops C Q l a) : wpQuiet P ops C Q l a := h.out
theorem wq_nil {P : Program} {ops : Array Oper} {C : World → Prop} {Q : Act → Prop} {a : Act} (h : Q a) : Wq P ops C Q [] a := ⟨wpQuiet_nil h⟩
theorem wq_do {P : Program} {ops : Array Oper} {C : World → Prop} {Q : Act → Prop} {a : Act} {o : Oper} {rest : List Oper} (hw : Region.wanted o (yielded ops a.tmps) = true)
    (h : ∀ K : Act → Prop, (∀ a, Wq P ops C Q rest a → K a) → o.quiet P a C K) : Wq P ops C Q (o :: rest) a := ⟨wpQuiet_step fun K hK => by rw [if_pos hw]; exact h K fun a hq => hK a hq.out⟩
theorem wq_skip {P : Program} {ops : Array Oper} {C : World → Prop} {Q : Act → Prop} {a : Act} {o : Oper} {rest : List Oper} (hw : Region.wanted o (yielded ops a.tmps) = false)
    (h : Wq P ops C Q rest (a.put o.dst undef)) : Wq P ops C Q (o :: rest) a := ⟨wpQuiet_step fun K hK => by rw [if_neg (by rw [hw]; exact Bool.false_ne_true)]; exact hK _ h.out⟩
end Go.Proofs.Ytpjcedilkahpiaa
