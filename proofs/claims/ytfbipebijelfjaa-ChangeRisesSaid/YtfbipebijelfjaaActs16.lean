/- A slice of psephoslaw16's acts that came in. -/
import Derived.Test.YtfbipebijelfjaaThings
namespace Go.Proofs.Ytfbipebijelfjaa
open Go.RowKit Go.ChangeShapes Go.WideShapes Go.Deep

/-- An act. -/
structure Ac where
  dd : Int
  nd : Int
  vw : Int
  sg : Int
def Ac.cells (x : Ac) : List Value := [.int .i64 x.dd, .int .i64 x.nd, .int .i64 x.vw, .int .i64 x.sg]
structure Ac.Came (w : World) (x : Ac) : Prop where
  dd : fit x.dd
  nd : fit x.nd
  vw : fit x.vw
  sg : fit x.sg
structure IsActs (w : World) (A : Option Addr) (l : List Ac) (c : Nat) : Prop where
  le : l.length ≤ c
  most : c ≤ maxLen
  nil : A = none → c = 0
  has : Has w w.heap.size A (l.flatMap Ac.cells)
  came : ∀ x ∈ l, x.Came w
section
variable {H : Type} {enc : TypeId × Value → H} {w : World} {base : Nat} {held : Bool}
theorem trod_act {n : Nat} {cs : List Value} {z : DataW H × List MemPlace} (hl : cs.length = 4) (h : DataW.trod enc Try.prog w base (fun _ => true) held n 43 cs = some z) : ∃ x : Ac, cs = x.cells ∧ x.Came w := by
  match cs, hl with
  | [c0, c1, c2, c3], _ =>
    have k3 : Try.prog.cellsOf 3 = 1 := by kernel_rfl
    obtain ⟨xs, m, _, _, _, hxl, hf⟩ := DataW.trod_struct Try.underlying43 h
    have hxl : xs.length = 4 := hxl
    obtain ⟨y0, e0⟩ := at_field hf 0 3 0 1 rfl k3 (by omega)
    obtain ⟨y1, e1⟩ := at_field hf 1 3 1 1 rfl k3 (by omega)
    obtain ⟨y2, e2⟩ := at_field hf 2 3 2 1 rfl k3 (by omega)
    obtain ⟨y3, e3⟩ := at_field hf 3 3 3 1 rfl k3 (by omega)
    simp only [List.drop_zero, List.drop_succ_cons, List.take_succ_cons, List.take_zero] at e0 e1 e2 e3
    obtain ⟨a0, h0, f0⟩ := trod_i64 e0
    obtain ⟨a1, h1, f1⟩ := trod_i64 e1
    obtain ⟨a2, h2, f2⟩ := trod_i64 e2
    obtain ⟨a3, h3, f3⟩ := trod_i64 e3
    cases h0; cases h1; cases h2; cases h3
    exact ⟨⟨a0, a1, a2, a3⟩, rfl, ⟨f0, f1, f2, f3⟩⟩
theorem open_acts {n : Nat} {A : Option Addr} {len cap : Nat} {y : DataW H × List MemPlace} (h : DataW.trod enc Try.prog w base (fun _ => true) held n 38 [.slice A len cap] = some y) :
    ∃ l : List Ac, l.length = len ∧ IsActs w A l cap := by
  obtain ⟨l, h1, h2, h3, h4, h5, h6⟩ := open_things (f := Ac.cells) (good := Ac.Came w) (s := 4) (fun _ => rfl) (by omega) Try.underlying38 (by kernel_rfl) (fun n cs z hl hz => trod_act hl hz) h
  exact ⟨l, h1, ⟨by omega, h3, h4, h5, h6⟩⟩
end
/-- An act of the row. -/
theorem act_at {w : World} {B : Nat} {A : Option Addr} {l : List Ac} (h : Has w B A (l.flatMap Ac.cells)) {k : Nat} (hk : k < l.length) :
    ∃ ad, A = some ad ∧ ad.block < B ∧ w.cell? (ad.add (k * 4)) = some (.int .i64 l[k].dd) ∧ w.cell? ⟨(ad.add (k * 4)).block, (ad.add (k * 4)).off + 1, none⟩ = some (.int .i64 l[k].nd) ∧
      w.cell? ⟨(ad.add (k * 4)).block, (ad.add (k * 4)).off + 2, none⟩ = some (.int .i64 l[k].vw) ∧ w.cell? ⟨(ad.add (k * 4)).block, (ad.add (k * 4)).off + 3, none⟩ = some (.int .i64 l[k].sg) := by
  obtain ⟨ad, e, hb, hc⟩ := h.thing (f := Ac.cells) (s := 4) (fun _ => rfl) (by omega) hk
  refine ⟨ad, e, hb, hc 0 _ rfl, ?_, ?_, ?_⟩
  · rw [← add_pos _ _ _ (by omega)]; exact hc 1 _ rfl
  · rw [← add_pos _ _ _ (by omega)]; exact hc 2 _ rfl
  · rw [← add_pos _ _ _ (by omega)]; exact hc 3 _ rfl
end Go.Proofs.Ytfbipebijelfjaa
