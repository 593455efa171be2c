/- Arguments that came in: a slice of entries, a slice of batches. -/
import Derived.Test.YtpjcedilkahpiaaLedEnt
namespace Go.Proofs.Ytpjcedilkahpiaa
open Go.RowKit Go.ChangeShapes Go.WideShapes Go.Deep

structure En.Fits (e : En) : Prop where
  r : e.r.Fits
  x : fit e.x
/-- A slice of entries that came in. -/
structure IsEnts (w : World) (A : Option Addr) (l : List En) (c : Nat) : Prop where
  le : l.length ≤ c
  most : c ≤ maxLen
  nil : A = none → c = 0
  has : Has w w.heap.size A (entCells l)
  fits : ∀ e ∈ l, e.Fits
/-- A batch as it lies. -/
structure Bt where
  A : Option Addr
  c : Nat
  l : List Rq
def Bt.cells (x : Bt) : List Value := [.slice x.A x.l.length x.c]
/-- A slice of batches that came in. -/
structure IsBats (w : World) (A : Option Addr) (l : List Bt) (c : Nat) : Prop where
  le : l.length ≤ c
  most : c ≤ maxLen
  nil : A = none → c = 0
  has : Has w w.heap.size A (l.flatMap Bt.cells)
  came : ∀ x ∈ l, IsReqs w x.A x.l x.c
section
variable {H : Type} {enc : TypeId × Value → H} {w : World} {base : Nat} {held : Bool}
theorem trod_ent {n : Nat} {cs : List Value} {z : DataW H × List MemPlace} (hl : cs.length = 7) (h : DataW.trod enc Try.prog w base (fun _ => true) held n 36 cs = some z) : ∃ e : En, cs = e.cells ∧ e.Fits := by
  match cs, hl with
  | [c0, c1, c2, c3, c4, c5, c6], _ =>
    have k3 : Try.prog.cellsOf 3 = 1 := by kernel_rfl
    have k6 : Try.prog.cellsOf 34 = 6 := by kernel_rfl
    obtain ⟨xs, m, _, _, _, hxl, hf⟩ := DataW.trod_struct Try.underlying36 h
    have hxl : xs.length = 2 := hxl
    obtain ⟨y0, e0⟩ := at_field hf 0 34 0 6 rfl k6 (by omega)
    obtain ⟨y1, e1⟩ := at_field hf 1 3 6 1 rfl k3 (by omega)
    obtain ⟨r, h0, f0⟩ := trod_req (by rfl) e0
    obtain ⟨a1, h1, f1⟩ := trod_i64 e1
    simp only [List.drop_zero, List.drop_succ_cons, List.take_succ_cons, List.take_zero, Rq.cells] at h0 h1
    cases h0; cases h1
    exact ⟨⟨r, a1⟩, rfl, f0, f1⟩
theorem open_ents {n : Nat} {A : Option Addr} {len cap : Nat} {y : DataW H × List MemPlace} (h : DataW.trod enc Try.prog w base (fun _ => true) held n 29 [.slice A len cap] = some y) :
    ∃ l : List En, l.length = len ∧ IsEnts w A l cap := by
  obtain ⟨l, h1, h2, h3, h4, h5, h6⟩ := open_things (f := En.cells) (good := En.Fits) (s := 7) (fun _ => rfl) (by omega) Try.underlying29 (by kernel_rfl) (fun n cs z hl hz => trod_ent hl hz) h
  exact ⟨l, h1, ⟨by omega, h3, h4, h5, h6⟩⟩
theorem trod_bat {n : Nat} {cs : List Value} {z : DataW H × List MemPlace} (h : DataW.trod enc Try.prog w base (fun _ => true) held n 42 cs = some z) : ∃ x : Bt, cs = x.cells ∧ IsReqs w x.A x.l x.c := by
  obtain ⟨A, len, c, rfl⟩ := trod_is_slice Try.underlying42 h
  obtain ⟨l, rfl, hl⟩ := open_reqs h
  exact ⟨⟨A, c, l⟩, rfl, hl⟩
theorem open_bats {n : Nat} {A : Option Addr} {len cap : Nat} {y : DataW H × List MemPlace} (h : DataW.trod enc Try.prog w base (fun _ => true) held n 22 [.slice A len cap] = some y) :
    ∃ l : List Bt, l.length = len ∧ IsBats w A l cap := by
  obtain ⟨l, h1, h2, h3, h4, h5, h6⟩ := open_things (f := Bt.cells) (good := fun x => IsReqs w x.A x.l x.c) (s := 1) (fun _ => rfl) (by omega) Try.underlying22 (by kernel_rfl) (fun n cs z _ hz => trod_bat hz) h
  exact ⟨l, h1, ⟨by omega, h3, h4, h5, h6⟩⟩
end
/-- A batch of a row of batches. -/
theorem Has.bat {w : World} {B : Nat} {A : Option Addr} {l : List Bt} (h : Has w B A (l.flatMap Bt.cells)) {k : Nat} (hk : k < l.length) :
    ∃ ad, A = some ad ∧ ad.block < B ∧ w.cell? (ad.add k) = some (.slice l[k].A l[k].l.length l[k].c) := by
  obtain ⟨ad, e, hb, hc⟩ := h.thing (f := Bt.cells) (s := 1) (fun _ => rfl) (by omega) hk
  have := hc 0 _ rfl
  rw [Nat.mul_one, Nat.add_zero] at this
  exact ⟨ad, e, hb, this⟩
end Go.Proofs.Ytpjcedilkahpiaa
