/- Slices of votes: as they lie, and as they come in. -/
import Derived.Test.YtkjlbbebgohhiaaThings
namespace Go.Proofs.Ytkjlbbebgohhiaa
open Go.RowKit Go.ChangeShapes Go.WideShapes Go.Deep

structure Vt where
  (nd sg : Int)
def Vt.cells (v : Vt) : List Value := [.int .i64 v.nd, .int .i64 v.sg]
structure Vt.Fits (v : Vt) : Prop where
  nd : fit v.nd
  sg : fit v.sg
def voteCells (l : List Vt) : List Value := l.flatMap Vt.cells
theorem voteCells_len (l : List Vt) : (voteCells l).length = l.length * 2 := flatMap_len (s := 2) (f := Vt.cells) (fun _ => rfl) l
theorem voteCells_app (l m : List Vt) : voteCells (l ++ m) = voteCells l ++ voteCells m := by simp [voteCells]
theorem voteCells_one (l : List Vt) : ∀ u ∈ voteCells l, u.oneCell' = true := by
  intro u hu
  obtain ⟨v, _, hv⟩ := List.mem_flatMap.1 hu
  simp [Vt.cells] at hv
  rcases hv with rfl | rfl <;> rfl
/-- A vote of a row. -/
theorem vote_at {w : World} {B : Nat} {A : Option Addr} {l : List Vt} (h : Has w B A (voteCells l)) {k : Nat} (hk : k < l.length) :
    ∃ ad, A = some ad ∧ ad.block < B ∧ w.cell? (ad.add (k * 2)) = some (.int .i64 l[k].nd) ∧ w.cell? ⟨(ad.add (k * 2)).block, (ad.add (k * 2)).off + 1, none⟩ = some (.int .i64 l[k].sg) := by
  obtain ⟨ad, e, hb, hc⟩ := h.thing (f := Vt.cells) (s := 2) (fun _ => rfl) (by omega) hk
  refine ⟨ad, e, hb, hc 0 _ rfl, ?_⟩
  rw [← add_pos _ _ _ (by omega)]; exact hc 1 _ rfl
/-- A slice of votes that came in. -/
structure IsVotes (w : World) (A : Option Addr) (l : List Vt) (c : Nat) : Prop where
  le : l.length ≤ c
  most : c ≤ maxLen
  nil : A = none → c = 0
  has : Has w w.heap.size A (voteCells l)
  fits : ∀ x ∈ l, x.Fits
section
variable {H : Type} {enc : TypeId × Value → H} {w : World} {base : Nat} {held : Bool}
theorem trod_vote {n : Nat} {cs : List Value} {z : DataW H × List MemPlace} (hl : cs.length = 2) (h : DataW.trod enc Try.prog w base (fun _ => true) held n 38 cs = some z) : ∃ r : Vt, cs = r.cells ∧ r.Fits := by
  match cs, hl with
  | [c0, c1], _ =>
    have k3 : Try.prog.cellsOf 3 = 1 := by kernel_rfl
    obtain ⟨xs, m, _, _, _, hxl, hf⟩ := DataW.trod_struct Try.underlying38 h
    have hxl : xs.length = 2 := hxl
    obtain ⟨y0, e0⟩ := at_field hf 0 3 0 1 rfl k3 (by omega)
    obtain ⟨y1, e1⟩ := at_field hf 1 3 1 1 rfl k3 (by omega)
    obtain ⟨a0, h0, f0⟩ := trod_i64 e0
    obtain ⟨a1, h1, f1⟩ := trod_i64 e1
    simp only [List.drop_zero, List.drop_succ_cons, List.take_succ_cons, List.take_zero] at h0 h1
    cases h0; cases h1
    exact ⟨⟨a0, a1⟩, rfl, ⟨f0, f1⟩⟩
theorem open_votes {n : Nat} {A : Option Addr} {len cap : Nat} {y : DataW H × List MemPlace} (h : DataW.trod enc Try.prog w base (fun _ => true) held n 34 [.slice A len cap] = some y) :
    ∃ l : List Vt, l.length = len ∧ IsVotes w A l cap := by
  obtain ⟨l, h1, h2, h3, h4, h5, h6⟩ := open_things (f := Vt.cells) (good := Vt.Fits) (s := 2) (fun _ => rfl) (by omega) Try.underlying34 (by kernel_rfl) (fun n cs z hl hz => trod_vote hl hz) h
  exact ⟨l, h1, ⟨by omega, h3, h4, h5, h6⟩⟩
end
end Go.Proofs.Ytkjlbbebgohhiaa
