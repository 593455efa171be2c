/- A ledger and the document's own, side by side. -/
import Derived.Test.YtpjcedilkahpiaaRight12
import Derived.Test.YtpjcedilkahpiaaReplies12Walk
namespace Go.Proofs.Ytpjcedilkahpiaa
open Go.RowKit
set_option linter.unusedSimpArgs false

/-- Both have run the same batches since world w1. -/
structure Pr (w w1 : World) (b0 : Lb) (r0 : Rb) (S : Sc) (E : List En) (L : List Bt) (k : Nat) (b : Lb) (r : Rb) (wr : World) : Prop where
  lx : Lx w b (S.run (allS (L.take k))) (E ++ S.ran (allS (L.take k))) wr
  rl : Rl wr r (S.run (allS (L.take k))) (E ++ S.ran (allS (L.take k)))
  sb : b.lb = b0.lb
  sr : r.rb = r0.rb
  n : b.N ≤ b0.N + (allS (L.take k)).length
  far : ∀ j, b.zone j → ¬ r.zone j
  rup : ∀ j, r.zone j → w.heap.size ≤ j
  tn : Turn (fun j => b0.zone j ∨ j = r0.rb) w1 wr
  zb : ∀ j, b.zone j → b0.zone j ∨ w1.heap.size ≤ j
  zr : ∀ j, r.zone j → r0.zone j ∨ w1.heap.size ≤ j
section
variable {w w1 wr w2 w3 : World} {b0 b b' : Lb} {r0 r r' : Rb} {S : Sc} {E : List En} {L : List Bt} {k : Nat} {v : Value}
theorem Pr.start (h : Lx w b0 S E w1) (hr : Rl w1 r0 S E) (hf : ∀ j, b0.zone j → ¬ r0.zone j) (hu : ∀ j, r0.zone j → w.heap.size ≤ j) : Pr w w1 b0 r0 S E L 0 b0 r0 w1 :=
  ⟨by show Lx w b0 S (E ++ []) w1; rw [List.append_nil]; exact h, by show Rl w1 r0 S (E ++ []); rw [List.append_nil]; exact hr, rfl, rfl, Nat.le_add_right _ _, hf, hu, Turn.refl _ _, fun _ hj => Or.inl hj, fun _ hj => Or.inl hj⟩
theorem Pr.below (h : Pr w w1 b0 r0 S E L k b r wr) (hb : Below wr.heap.size wr w2) : Pr w w1 b0 r0 S E L k b r w2 :=
  ⟨h.lx.below hb, h.rl.below hb, h.sb, h.sr, h.n, h.far, h.rup, h.tn.trans (Turn.of_below hb), h.zb, h.zr⟩
/-- What lies in neither may change. -/
theorem Pr.off {Z : Nat → Prop} (h : Pr w w1 b0 r0 S E L k b r wr) (ht : Turn Z wr w2) (hb : ∀ j, b.zone j → ¬ Z j) (hr : ∀ j, r.zone j → ¬ Z j) (hl : ∀ j, Z j → w1.heap.size ≤ j) (hw : w.heap.size ≤ w1.heap.size) : Pr w w1 b0 r0 S E L k b r w2 :=
  ⟨h.lx.kept ht hb (fun j hj => Nat.le_trans hw (hl j hj)), h.rl.kept ht hr, h.sb, h.sr, h.n, h.far, h.rup,
    ((h.tn.mono (Z' := fun j => (b0.zone j ∨ j = r0.rb) ∨ w1.heap.size ≤ j) (fun _ _ e => Or.inl e)).trans (ht.mono (fun j _ e => Or.inr (hl j e)))).mono (fun j hj e => e.elim id (fun e => by omega)), h.zb, h.zr⟩
/-- The ledger has run one more batch, the document's not yet. -/
structure Half (w w1 : World) (b0 : Lb) (r0 : Rb) (S : Sc) (E : List En) (L : List Bt) (k : Nat) (l : List Rq) (b' : Lb) (r : Rb) (w2 : World) : Prop where
  lx : Lx w b' ((S.run (allS (L.take k))).run l) ((E ++ S.ran (allS (L.take k))) ++ (S.run (allS (L.take k))).ran l) w2
  rl : Rl w2 r (S.run (allS (L.take k))) (E ++ S.ran (allS (L.take k)))
  sb : b'.lb = b0.lb
  sr : r.rb = r0.rb
  n : b'.N ≤ b0.N + (allS (L.take k)).length + l.length
  far : ∀ j, b'.zone j → ¬ r.zone j
  rup : ∀ j, r.zone j → w.heap.size ≤ j
  tn : Turn (fun j => b0.zone j ∨ j = r0.rb) w1 w2
  zb : ∀ j, b'.zone j → b0.zone j ∨ w1.heap.size ≤ j
  zr : ∀ j, r.zone j → r0.zone j ∨ w1.heap.size ≤ j
theorem Pr.half {l : List Rq} (h : Pr w w1 b0 r0 S E L k b r wr) (hR : Ran w b (S.run (allS (L.take k))) (E ++ S.ran (allS (L.take k))) l wr v b' w2) : Half w w1 b0 r0 S E L k l b' r w2 := by
  have hs := h.tn.size
  have hl := Sc.ran_len l (S.run (allS (L.take k)))
  have hn := h.n
  refine ⟨hR.lx, h.rl.kept hR.tn (fun j hj hb => h.far j hb hj), hR.same.trans h.sb, h.sr, by rw [hR.n]; omega, fun j hj hr => ?_, h.rup, ?_, fun j hj => ?_, h.zr⟩
  · rcases hR.zone j hj with e | e
    · exact h.far j e hr
    · have := h.rl.lt hr; omega
  · have t1 : Turn (fun j => (b0.zone j ∨ j = r0.rb) ∨ w1.heap.size ≤ j) w1 w2 := (h.tn.mono (fun _ _ e => Or.inl e)).trans (hR.tn.mono (fun j _ e => (h.zb j e).elim (fun e => Or.inl (Or.inl e)) Or.inr))
    exact t1.mono (fun j hj e => e.elim id (fun e => by omega))
  · rcases hR.zone j hj with e | e
    · exact h.zb j e
    · exact Or.inr (by omega)
theorem Half.full {A' : Option Addr} {c' : Nat} (hk : k < L.length) (h : Half w w1 b0 r0 S E L k L[k].l b' r w2)
    (hr : Rl w3 ⟨r.rb, A', c'⟩ ((S.run (allS (L.take k))).run L[k].l) ((E ++ S.ran (allS (L.take k))) ++ (S.run (allS (L.take k))).ran L[k].l)) (hA : ∀ ad, A' = some ad → w2.heap.size ≤ ad.block) (ht : Turn (fun j => j = r.rb) w2 w3) :
    Pr w w1 b0 r0 S E L (k + 1) b' ⟨r.rb, A', c'⟩ w3 := by
  have hs := h.tn.size
  have hlow := h.lx.low.size
  have hrz : ∀ j, (⟨r.rb, A', c'⟩ : Rb).zone j → j = r.rb ∨ w2.heap.size ≤ j := fun j hj => by
    rcases hj with e | ⟨ad, e, rfl⟩
    · exact Or.inl e
    · exact Or.inr (hA ad e)
  have hrr : r.zone r.rb := Or.inl rfl
  refine ⟨?_, ?_, h.sb, h.sr, ?_, fun j hj hz => ?_, fun j hj => ?_, ?_, h.zb, fun j hj => ?_⟩
  · rw [allS_take hk, Sc.run_app, Sc.ran_app, ← List.append_assoc]
    exact h.lx.kept ht (fun j hj e => by have e : j = r.rb := e; subst e; exact h.far _ hj hrr) (fun j e => by have e : j = r.rb := e; subst e; exact h.rup _ hrr)
  · rw [allS_take hk, Sc.run_app, Sc.ran_app, ← List.append_assoc]
    exact hr
  · rw [allS_take hk, List.length_append]
    have := h.n
    omega
  · rcases hrz j hz with e | e
    · subst e; exact h.far _ hj hrr
    · have := h.lx.lg.lt hj; omega
  · rcases hrz j hj with e | e
    · subst e; exact h.rup _ hrr
    · omega
  · have t1 : Turn (fun j => (b0.zone j ∨ j = r0.rb)) w1 w3 := h.tn.trans (ht.mono (fun j _ e => Or.inr (by have e : j = r.rb := e; exact e.trans h.sr)))
    exact t1
  · rcases hrz j hj with e | e
    · subst e; exact h.zr _ hrr
    · exact Or.inr (by omega)
end
end Go.Proofs.Ytpjcedilkahpiaa
