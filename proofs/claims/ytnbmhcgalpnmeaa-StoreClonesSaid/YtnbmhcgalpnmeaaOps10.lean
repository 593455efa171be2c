/- A slice of operations that came in. -/
import Derived.Test.YtnbmhcgalpnmeaaOpens
namespace Go.Proofs.Ytnbmhcgalpnmeaa
open Go.RowKit Go.ChangeShapes Go.WideShapes Go.Deep

/-- An operation. -/
structure Oe where
  kd : Int
  ky : Int
  vl : Int
def Oe.cells (x : Oe) : List Value := [.int .i64 x.kd, .int .i64 x.ky, .int .i64 x.vl]
structure Oe.Came (w : World) (x : Oe) : Prop where
  kd : fit x.kd
  ky : fit x.ky
  vl : fit x.vl
structure IsOps (w : World) (A : Option Addr) (l : List Oe) (c : Nat) : Prop where
  le : l.length ≤ c
  most : c ≤ maxLen
  nil : A = none → c = 0
  has : Has w w.heap.size A (l.flatMap Oe.cells)
  came : ∀ x ∈ l, x.Came w
section
variable {H : Type} {enc : TypeId × Value → H} {w : World} {base : Nat} {held : Bool}
theorem trod_ope {n : Nat} {cs : List Value} {z : DataW H × List MemPlace} (hl : cs.length = 3) (h : DataW.trod enc Try.prog w base (fun _ => true) held n 29 cs = some z) : ∃ x : Oe, cs = x.cells ∧ x.Came w := by
  match cs, hl with
  | [c0, c1, c2], _ =>
    have k3 : Try.prog.cellsOf 3 = 1 := by kernel_rfl
    obtain ⟨xs, m, _, _, _, hxl, hf⟩ := DataW.trod_struct Try.underlying29 h
    have hxl : xs.length = 3 := hxl
    obtain ⟨y0, e0⟩ := at_field hf 0 3 0 1 rfl k3 (by omega)
    obtain ⟨y1, e1⟩ := at_field hf 1 3 1 1 rfl k3 (by omega)
    obtain ⟨y2, e2⟩ := at_field hf 2 3 2 1 rfl k3 (by omega)
    simp only [List.drop_zero, List.drop_succ_cons, List.take_succ_cons, List.take_zero] at e0 e1 e2
    obtain ⟨a0, h0, f0⟩ := trod_i64 e0
    obtain ⟨a1, h1, f1⟩ := trod_i64 e1
    obtain ⟨a2, h2, f2⟩ := trod_i64 e2
    cases h0; cases h1; cases h2
    exact ⟨⟨a0, a1, a2⟩, rfl, ⟨f0, f1, f2⟩⟩
theorem open_ops {n : Nat} {A : Option Addr} {len cap : Nat} {y : DataW H × List MemPlace} (h : DataW.trod enc Try.prog w base (fun _ => true) held n 35 [.slice A len cap] = some y) :
    ∃ l : List Oe, l.length = len ∧ IsOps w A l cap := by
  obtain ⟨l, h1, h2, h3, h4, h5, h6⟩ := open_things (f := Oe.cells) (good := Oe.Came w) (s := 3) (fun _ => rfl) (by omega) Try.underlying35 (by kernel_rfl) (fun n cs z hl hz => trod_ope hl hz) h
  exact ⟨l, h1, ⟨by omega, h3, h4, h5, h6⟩⟩
end
/-- An operation of the row. -/
theorem ope_at {w : World} {B : Nat} {A : Option Addr} {l : List Oe} (h : Has w B A (l.flatMap Oe.cells)) {k : Nat} (hk : k < l.length) :
    ∃ ad, A = some ad ∧ ad.block < B ∧ w.cell? (ad.add (k * 3)) = some (.int .i64 l[k].kd) ∧ w.cell? ⟨(ad.add (k * 3)).block, (ad.add (k * 3)).off + 1, none⟩ = some (.int .i64 l[k].ky) ∧
      w.cell? ⟨(ad.add (k * 3)).block, (ad.add (k * 3)).off + 2, none⟩ = some (.int .i64 l[k].vl) := by
  obtain ⟨ad, e, hb, hc⟩ := h.thing (f := Oe.cells) (s := 3) (fun _ => rfl) (by omega) hk
  refine ⟨ad, e, hb, hc 0 _ rfl, ?_, ?_⟩
  · rw [← add_pos _ _ _ (by omega)]; exact hc 1 _ rfl
  · rw [← add_pos _ _ _ (by omega)]; exact hc 2 _ rfl
end Go.Proofs.Ytnbmhcgalpnmeaa
