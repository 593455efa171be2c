/- A slice of psephoslaw14's acts that came in. -/
import Derived.Test.YtcebnmhkbhhfiaaOpens
namespace Go.Proofs.Ytcebnmhkbhhfiaa
open Go.RowKit Go.ChangeShapes Go.WideShapes Go.Deep

/-- An act. -/
structure Ac where
  dd : Int
  ki : Int
  nd : Int
  sg : Int
  wh : Int
  A : Option Addr
  c : Nat
  l : List Rq
def Ac.cells (x : Ac) : List Value := [.int .i64 x.dd, .int .i64 x.ki, .int .i64 x.nd, .int .i64 x.sg, .int .i64 x.wh, .slice x.A x.l.length x.c]
structure Ac.Came (w : World) (x : Ac) : Prop where
  dd : fit x.dd
  ki : fit x.ki
  nd : fit x.nd
  sg : fit x.sg
  wh : fit x.wh
  r : IsReqs w x.A x.l x.c
structure IsActs (w : World) (A : Option Addr) (l : List Ac) (c : Nat) : Prop where
  le : l.length ≤ c
  most : c ≤ maxLen
  nil : A = none → c = 0
  has : Has w w.heap.size A (l.flatMap Ac.cells)
  came : ∀ x ∈ l, x.Came w
section
variable {H : Type} {enc : TypeId × Value → H} {w : World} {base : Nat} {held : Bool}
theorem trod_act {n : Nat} {cs : List Value} {z : DataW H × List MemPlace} (hl : cs.length = 6) (h : DataW.trod enc Try.prog w base (fun _ => true) held n 35 cs = some z) : ∃ x : Ac, cs = x.cells ∧ x.Came w := by
  match cs, hl with
  | [c0, c1, c2, c3, c4, c5], _ =>
    have k3 : Try.prog.cellsOf 3 = 1 := by kernel_rfl
    have kr : Try.prog.cellsOf 29 = 1 := by kernel_rfl
    obtain ⟨xs, m, _, _, _, hxl, hf⟩ := DataW.trod_struct Try.underlying35 h
    have hxl : xs.length = 6 := hxl
    obtain ⟨y0, e0⟩ := at_field hf 0 3 0 1 rfl k3 (by omega)
    obtain ⟨y1, e1⟩ := at_field hf 1 3 1 1 rfl k3 (by omega)
    obtain ⟨y2, e2⟩ := at_field hf 2 3 2 1 rfl k3 (by omega)
    obtain ⟨y3, e3⟩ := at_field hf 3 3 3 1 rfl k3 (by omega)
    obtain ⟨y4, e4⟩ := at_field hf 4 3 4 1 rfl k3 (by omega)
    obtain ⟨y5, e5⟩ := at_field hf 5 29 5 1 rfl kr (by omega)
    simp only [List.drop_zero, List.drop_succ_cons, List.take_succ_cons, List.take_zero] at e0 e1 e2 e3 e4 e5
    obtain ⟨a0, h0, f0⟩ := trod_i64 e0
    obtain ⟨a1, h1, f1⟩ := trod_i64 e1
    obtain ⟨a2, h2, f2⟩ := trod_i64 e2
    obtain ⟨a3, h3, f3⟩ := trod_i64 e3
    obtain ⟨a4, h4, f4⟩ := trod_i64 e4
    obtain ⟨A, len, c, h5⟩ := trod_is_slice Try.underlying29 e5
    cases h0; cases h1; cases h2; cases h3; cases h4; cases h5
    obtain ⟨l, rfl, hl⟩ := open_reqs e5
    exact ⟨⟨a0, a1, a2, a3, a4, A, c, l⟩, rfl, ⟨f0, f1, f2, f3, f4, hl⟩⟩
theorem open_acts {n : Nat} {A : Option Addr} {len cap : Nat} {y : DataW H × List MemPlace} (h : DataW.trod enc Try.prog w base (fun _ => true) held n 22 [.slice A len cap] = some y) :
    ∃ l : List Ac, l.length = len ∧ IsActs w A l cap := by
  obtain ⟨l, h1, h2, h3, h4, h5, h6⟩ := open_things (f := Ac.cells) (good := Ac.Came w) (s := 6) (fun _ => rfl) (by omega) Try.underlying22 (by kernel_rfl) (fun n cs z hl hz => trod_act hl hz) h
  exact ⟨l, h1, ⟨by omega, h3, h4, h5, h6⟩⟩
end
/-- An act's cells, at its place. -/
structure ActAt (w : World) (ad : Addr) (k : Nat) (x : Ac) : Prop where
  c0 : w.cell? (ad.add (k * 6)) = some (.int .i64 x.dd)
  c1 : w.cell? ⟨(ad.add (k * 6)).block, (ad.add (k * 6)).off + 1, none⟩ = some (.int .i64 x.ki)
  c2 : w.cell? ⟨(ad.add (k * 6)).block, (ad.add (k * 6)).off + 2, none⟩ = some (.int .i64 x.nd)
  c3 : w.cell? ⟨(ad.add (k * 6)).block, (ad.add (k * 6)).off + 3, none⟩ = some (.int .i64 x.sg)
  c4 : w.cell? ⟨(ad.add (k * 6)).block, (ad.add (k * 6)).off + 4, none⟩ = some (.int .i64 x.wh)
  c5 : w.cell? ⟨(ad.add (k * 6)).block, (ad.add (k * 6)).off + 5, none⟩ = some (.slice x.A x.l.length x.c)
theorem act_at {w : World} {B : Nat} {A : Option Addr} {l : List Ac} (h : Has w B A (l.flatMap Ac.cells)) {k : Nat} (hk : k < l.length) : ∃ ad, A = some ad ∧ ad.block < B ∧ ActAt w ad k l[k] := by
  obtain ⟨ad, e, hb, hc⟩ := h.thing (f := Ac.cells) (s := 6) (fun _ => rfl) (by omega) hk
  refine ⟨ad, e, hb, ⟨hc 0 _ rfl, ?_, ?_, ?_, ?_, ?_⟩⟩
  · rw [← add_pos _ _ _ (by omega)]; exact hc 1 _ rfl
  · rw [← add_pos _ _ _ (by omega)]; exact hc 2 _ rfl
  · rw [← add_pos _ _ _ (by omega)]; exact hc 3 _ rfl
  · rw [← add_pos _ _ _ (by omega)]; exact hc 4 _ rfl
  · rw [← add_pos _ _ _ (by omega)]; exact hc 5 _ rfl
theorem ActAt.drewN {w : World} {ad : Addr} {k : Nat} {x : Ac} (h : ActAt w ad k x) (m : Nat) : ActAt (w.drewN m) ad k x := ⟨h.c0, h.c1, h.c2, h.c3, h.c4, h.c5⟩
end Go.Proofs.Ytcebnmhkbhhfiaa
