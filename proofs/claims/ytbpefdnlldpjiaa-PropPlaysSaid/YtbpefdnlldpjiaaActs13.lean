/- A slice of psephoslaw13's acts that came in. -/
import Derived.Test.YtbpefdnlldpjiaaOpens
namespace Go.Proofs.Ytbpefdnlldpjiaa
open Go.RowKit Go.ChangeShapes Go.WideShapes Go.Deep

/-- An act. -/
structure Ac where
  dd : Int
  nd : Int
  ck : Int
  cl : Int
  nn : Int
  r : Rq
def Ac.cells (x : Ac) : List Value := [.int .i64 x.dd, .int .i64 x.nd, .int .i64 x.ck, .int .i64 x.cl, .int .i64 x.nn, .int .i64 x.r.cl, .int .i64 x.r.tm, .int .i64 x.r.kd, .int .i64 x.r.ky, .int .i64 x.r.vl, .int .i64 x.r.sg]
structure Ac.Came (_w : World) (x : Ac) : Prop where
  dd : fit x.dd
  nd : fit x.nd
  ck : fit x.ck
  cl : fit x.cl
  nn : fit x.nn
  r : x.r.Fits
structure IsActs (w : World) (A : Option Addr) (l : List Ac) (c : Nat) : Prop where
  le : l.length ≤ c
  most : c ≤ maxLen
  nil : A = none → c = 0
  has : Has w w.heap.size A (l.flatMap Ac.cells)
  came : ∀ x ∈ l, x.Came w
section
variable {H : Type} {enc : TypeId × Value → H} {w : World} {base : Nat} {held : Bool}
theorem trod_act {n : Nat} {cs : List Value} {z : DataW H × List MemPlace} (hl : cs.length = 11) (h : DataW.trod enc Try.prog w base (fun _ => true) held n 49 cs = some z) : ∃ x : Ac, cs = x.cells ∧ x.Came w := by
  match cs, hl with
  | [c0, c1, c2, c3, c4, c5, c6, c7, c8, c9, c10], _ =>
    have k3 : Try.prog.cellsOf 3 = 1 := by kernel_rfl
    have k25 : Try.prog.cellsOf 25 = 6 := by kernel_rfl
    obtain ⟨xs, m, _, _, _, hxl, hf⟩ := DataW.trod_struct Try.underlying49 h
    have hxl : xs.length = 6 := hxl
    obtain ⟨y0, e0⟩ := at_field hf 0 3 0 1 rfl k3 (by omega)
    obtain ⟨y1, e1⟩ := at_field hf 1 3 1 1 rfl k3 (by omega)
    obtain ⟨y2, e2⟩ := at_field hf 2 3 2 1 rfl k3 (by omega)
    obtain ⟨y3, e3⟩ := at_field hf 3 3 3 1 rfl k3 (by omega)
    obtain ⟨y4, e4⟩ := at_field hf 4 3 4 1 rfl k3 (by omega)
    obtain ⟨y5, e5⟩ := at_field hf 5 25 5 6 rfl k25 (by omega)
    simp only [List.drop_zero, List.drop_succ_cons, List.take_succ_cons, List.take_zero] at e0 e1 e2 e3 e4 e5
    obtain ⟨a0, h0, f0⟩ := trod_i64 e0
    obtain ⟨a1, h1, f1⟩ := trod_i64 e1
    obtain ⟨a2, h2, f2⟩ := trod_i64 e2
    obtain ⟨a3, h3, f3⟩ := trod_i64 e3
    obtain ⟨a4, h4, f4⟩ := trod_i64 e4
    obtain ⟨r, h5, f5⟩ := trod_req (by rfl) e5
    cases h0; cases h1; cases h2; cases h3; cases h4
    unfold Rq.cells at h5
    cases h5
    exact ⟨⟨a0, a1, a2, a3, a4, r⟩, rfl, ⟨f0, f1, f2, f3, f4, f5⟩⟩
theorem open_acts {n : Nat} {A : Option Addr} {len cap : Nat} {y : DataW H × List MemPlace} (h : DataW.trod enc Try.prog w base (fun _ => true) held n 42 [.slice A len cap] = some y) :
    ∃ l : List Ac, l.length = len ∧ IsActs w A l cap := by
  obtain ⟨l, h1, h2, h3, h4, h5, h6⟩ := open_things (f := Ac.cells) (good := Ac.Came w) (s := 11) (fun _ => rfl) (by omega) Try.underlying42 (by kernel_rfl) (fun n cs z hl hz => trod_act hl hz) h
  exact ⟨l, h1, ⟨by omega, h3, h4, h5, h6⟩⟩
end
/-- An act's cells, at its place. -/
structure ActAt (w : World) (ad : Addr) (k : Nat) (x : Ac) : Prop where
  c0 : w.cell? (ad.add (k * 11)) = some (.int .i64 x.dd)
  c1 : w.cell? ⟨(ad.add (k * 11)).block, (ad.add (k * 11)).off + 1, none⟩ = some (.int .i64 x.nd)
  c2 : w.cell? ⟨(ad.add (k * 11)).block, (ad.add (k * 11)).off + 2, none⟩ = some (.int .i64 x.ck)
  c3 : w.cell? ⟨(ad.add (k * 11)).block, (ad.add (k * 11)).off + 3, none⟩ = some (.int .i64 x.cl)
  c4 : w.cell? ⟨(ad.add (k * 11)).block, (ad.add (k * 11)).off + 4, none⟩ = some (.int .i64 x.nn)
  c5 : w.cell? ⟨(ad.add (k * 11)).block, (ad.add (k * 11)).off + 5, none⟩ = some (.int .i64 x.r.cl)
  c6 : w.cell? ⟨(ad.add (k * 11)).block, (ad.add (k * 11)).off + 6, none⟩ = some (.int .i64 x.r.tm)
  c7 : w.cell? ⟨(ad.add (k * 11)).block, (ad.add (k * 11)).off + 7, none⟩ = some (.int .i64 x.r.kd)
  c8 : w.cell? ⟨(ad.add (k * 11)).block, (ad.add (k * 11)).off + 8, none⟩ = some (.int .i64 x.r.ky)
  c9 : w.cell? ⟨(ad.add (k * 11)).block, (ad.add (k * 11)).off + 9, none⟩ = some (.int .i64 x.r.vl)
  c10 : w.cell? ⟨(ad.add (k * 11)).block, (ad.add (k * 11)).off + 10, none⟩ = some (.int .i64 x.r.sg)
theorem act_at {w : World} {B : Nat} {A : Option Addr} {l : List Ac} (h : Has w B A (l.flatMap Ac.cells)) {k : Nat} (hk : k < l.length) : ∃ ad, A = some ad ∧ ad.block < B ∧ ActAt w ad k l[k] := by
  obtain ⟨ad, e, hb, hc⟩ := h.thing (f := Ac.cells) (s := 11) (fun _ => rfl) (by omega) hk
  refine ⟨ad, e, hb, ⟨hc 0 _ rfl, ?_, ?_, ?_, ?_, ?_, ?_, ?_, ?_, ?_, ?_⟩⟩
  · rw [← add_pos _ _ _ (by omega)]; exact hc 1 _ rfl
  · rw [← add_pos _ _ _ (by omega)]; exact hc 2 _ rfl
  · rw [← add_pos _ _ _ (by omega)]; exact hc 3 _ rfl
  · rw [← add_pos _ _ _ (by omega)]; exact hc 4 _ rfl
  · rw [← add_pos _ _ _ (by omega)]; exact hc 5 _ rfl
  · rw [← add_pos _ _ _ (by omega)]; exact hc 6 _ rfl
  · rw [← add_pos _ _ _ (by omega)]; exact hc 7 _ rfl
  · rw [← add_pos _ _ _ (by omega)]; exact hc 8 _ rfl
  · rw [← add_pos _ _ _ (by omega)]; exact hc 9 _ rfl
  · rw [← add_pos _ _ _ (by omega)]; exact hc 10 _ rfl
theorem ActAt.back {w w' : World} {ad : Addr} {k : Nat} {x : Ac} (h : ActAt w ad k x) (hb : w'.heap[(ad.add (k * 11)).block]? = w.heap[(ad.add (k * 11)).block]?) : ActAt w' ad k x :=
  have q : ∀ j, w'.cell? ⟨(ad.add (k * 11)).block, j, none⟩ = w.cell? ⟨(ad.add (k * 11)).block, j, none⟩ := fun j => World.cell?_of_block (a := ⟨(ad.add (k * 11)).block, j, none⟩) hb
  ⟨(World.cell?_of_block hb).trans h.c0, (q _).trans h.c1, (q _).trans h.c2, (q _).trans h.c3, (q _).trans h.c4, (q _).trans h.c5, (q _).trans h.c6, (q _).trans h.c7, (q _).trans h.c8, (q _).trans h.c9, (q _).trans h.c10⟩
end Go.Proofs.Ytbpefdnlldpjiaa
