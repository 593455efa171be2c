/- Arguments that came in: slices of requests, votes, certificates, parts, opened to cells. -/
import Derived.Test.YtcebnmhkbhhfiaaLists
import Derived.Deep.Slices
import Derived.Deep.Fields
import Derived.ChangeSame
import Derived.ProofKit
import Derived.OpenShut
namespace Go.Proofs.Ytcebnmhkbhhfiaa
open Go.RowKit Go.ChangeShapes Go.WideShapes Go.Deep

structure Rq.Fits (r : Rq) : Prop where
  cl : fit r.cl
  tm : fit r.tm
  kd : fit r.kd
  ky : fit r.ky
  vl : fit r.vl
  sg : fit r.sg
structure Vt.Fits (v : Vt) : Prop where
  nd : fit v.nd
  sg : fit v.sg
/-- A slice of requests that came in. -/
structure IsReqs (w : World) (A : Option Addr) (l : List Rq) (c : Nat) : Prop where
  le : l.length ≤ c
  most : c ≤ maxLen
  nil : A = none → c = 0
  has : Has w w.heap.size A (reqCells l)
  fits : ∀ x ∈ l, x.Fits
structure IsVotes (w : World) (A : Option Addr) (l : List Vt) (c : Nat) : Prop where
  le : l.length ≤ c
  most : c ≤ maxLen
  nil : A = none → c = 0
  has : Has w w.heap.size A (voteCells l)
  fits : ∀ x ∈ l, x.Fits
/-- A certificate whose lists came in. -/
structure Cs.Came (w : World) (x : Cs) : Prop where
  vw : fit x.c.vw
  ins : fit x.c.ins
  sq : fit x.c.sq
  bt : IsReqs w x.A1 x.c.bt x.c1
  vs : IsVotes w x.A2 x.c.vs x.c2
structure IsCerts (w : World) (A : Option Addr) (l : List Ct) (c : Nat) : Prop where
  le : l.length ≤ c
  most : c ≤ maxLen
  nil : A = none → c = 0
  lies : ∃ L : List Cs, L.map Cs.c = l ∧ Has w w.heap.size A (L.flatMap Cs.cells) ∧ ∀ x ∈ L, x.Came w
structure Ps.Came (w : World) (x : Ps) : Prop where
  fr : fit x.p.fr
  sg : fit x.p.sg
  vs : IsVotes w x.A1 x.p.vs x.c1
  cs : IsCerts w x.A2 x.p.cs x.c2
structure IsParts (w : World) (A : Option Addr) (l : List Pt) (c : Nat) : Prop where
  le : l.length ≤ c
  most : c ≤ maxLen
  nil : A = none → c = 0
  lies : ∃ L : List Ps, L.map Ps.p = l ∧ Has w w.heap.size A (L.flatMap Ps.cells) ∧ ∀ x ∈ L, x.Came w
theorem IsCerts.has {w : World} {A : Option Addr} {l : List Ct} {c : Nat} (h : IsCerts w A l c) : HasCerts w w.heap.size A l := by
  obtain ⟨L, h1, h2, h3⟩ := h.lies
  exact ⟨L, h1, h2, fun x hx => ⟨(h3 x hx).bt.has, (h3 x hx).vs.has⟩⟩
theorem IsParts.has {w : World} {A : Option Addr} {l : List Pt} {c : Nat} (h : IsParts w A l c) : HasParts w w.heap.size A l := by
  obtain ⟨L, h1, h2, h3⟩ := h.lies
  exact ⟨L, h1, h2, fun x hx => ⟨(h3 x hx).vs.has, (h3 x hx).cs.has⟩⟩

section
variable {H : Type} {enc : TypeId × Value → H} {P : Program} {w : World} {base : Nat} {held : Bool}
end
section
variable {H : Type} {enc : TypeId × Value → H} {w : World} {base : Nat} {held : Bool}
theorem trod_req {n : Nat} {cs : List Value} {z : DataW H × List MemPlace} (hl : cs.length = 6) (h : DataW.trod enc Try.prog w base (fun _ => true) held n 71 cs = some z) : ∃ r : Rq, cs = r.cells ∧ r.Fits := by
  match cs, hl with
  | [c0, c1, c2, c3, c4, c5], _ =>
    have k3 : Try.prog.cellsOf 3 = 1 := by kernel_rfl
    have k29 : Try.prog.cellsOf 69 = 3 := by kernel_rfl
    obtain ⟨xs, m, _, _, _, hxl, hf⟩ := DataW.trod_struct Try.underlying71 h
    have hxl : xs.length = 4 := hxl
    obtain ⟨y0, e0⟩ := at_field hf 0 3 0 1 rfl k3 (by omega)
    obtain ⟨y1, e1⟩ := at_field hf 1 3 1 1 rfl k3 (by omega)
    obtain ⟨y2, e2⟩ := at_field hf 2 69 2 3 rfl k29 (by omega)
    obtain ⟨y3, e3⟩ := at_field hf 3 3 5 1 rfl k3 (by omega)
    obtain ⟨a0, h0, f0⟩ := trod_i64 e0
    obtain ⟨a1, h1, f1⟩ := trod_i64 e1
    obtain ⟨a3, h3, f3⟩ := trod_i64 e3
    obtain ⟨xs2, m2, _, _, _, hxl2, hf2⟩ := DataW.trod_struct Try.underlying69 e2
    have hxl2 : xs2.length = 3 := hxl2
    obtain ⟨y4, e4⟩ := at_field hf2 0 3 0 1 rfl k3 (by omega)
    obtain ⟨y5, e5⟩ := at_field hf2 1 3 1 1 rfl k3 (by omega)
    obtain ⟨y6, e6⟩ := at_field hf2 2 3 2 1 rfl k3 (by omega)
    obtain ⟨a4, h4, f4⟩ := trod_i64 e4
    obtain ⟨a5, h5, f5⟩ := trod_i64 e5
    obtain ⟨a6, h6, f6⟩ := trod_i64 e6
    simp only [List.drop_zero, List.drop_succ_cons, List.take_succ_cons, List.take_zero] at h0 h1 h3 h4 h5 h6
    cases h0; cases h1; cases h3; cases h4; cases h5; cases h6
    exact ⟨⟨a0, a1, a4, a5, a6, a3⟩, rfl, ⟨f0, f1, f4, f5, f6, f3⟩⟩
theorem trod_op {n : Nat} {cs : List Value} {z : DataW H × List MemPlace} (hl : cs.length = 3) (h : DataW.trod enc Try.prog w base (fun _ => true) held n 69 cs = some z) : ∃ k y v : Int, cs = [.int .i64 k, .int .i64 y, .int .i64 v] ∧ fit k ∧ fit y ∧ fit v := by
  match cs, hl with
  | [c0, c1, c2], _ =>
    have k3 : Try.prog.cellsOf 3 = 1 := by kernel_rfl
    obtain ⟨xs, m, _, _, _, hxl, hf⟩ := DataW.trod_struct Try.underlying69 h
    have hxl : xs.length = 3 := hxl
    obtain ⟨y0, e0⟩ := at_field hf 0 3 0 1 rfl k3 (by omega)
    obtain ⟨y1, e1⟩ := at_field hf 1 3 1 1 rfl k3 (by omega)
    obtain ⟨y2, e2⟩ := at_field hf 2 3 2 1 rfl k3 (by omega)
    obtain ⟨a0, h0, f0⟩ := trod_i64 e0
    obtain ⟨a1, h1, f1⟩ := trod_i64 e1
    obtain ⟨a2, h2, f2⟩ := trod_i64 e2
    simp only [List.drop_zero, List.drop_succ_cons, List.take_succ_cons, List.take_zero] at h0 h1 h2
    cases h0; cases h1; cases h2
    exact ⟨a0, a1, a2, rfl, f0, f1, f2⟩
theorem trod_vote {n : Nat} {cs : List Value} {z : DataW H × List MemPlace} (hl : cs.length = 2) (h : DataW.trod enc Try.prog w base (fun _ => true) held n 78 cs = some z) : ∃ r : Vt, cs = r.cells ∧ r.Fits := by
  match cs, hl with
  | [c0, c1], _ =>
    have k3 : Try.prog.cellsOf 3 = 1 := by kernel_rfl
    obtain ⟨xs, m, _, _, _, hxl, hf⟩ := DataW.trod_struct Try.underlying78 h
    have hxl : xs.length = 2 := hxl
    obtain ⟨y0, e0⟩ := at_field hf 0 3 0 1 rfl k3 (by omega)
    obtain ⟨y1, e1⟩ := at_field hf 1 3 1 1 rfl k3 (by omega)
    obtain ⟨a0, h0, f0⟩ := trod_i64 e0
    obtain ⟨a1, h1, f1⟩ := trod_i64 e1
    simp only [List.drop_zero, List.drop_succ_cons, List.take_succ_cons, List.take_zero] at h0 h1
    cases h0; cases h1
    exact ⟨⟨a0, a1⟩, rfl, ⟨f0, f1⟩⟩
theorem open_reqs {n : Nat} {A : Option Addr} {len cap : Nat} {y : DataW H × List MemPlace} (h : DataW.trod enc Try.prog w base (fun _ => true) held n 29 [.slice A len cap] = some y) :
    ∃ l : List Rq, l.length = len ∧ IsReqs w A l cap := by
  obtain ⟨l, h1, h2, h3, h4, h5, h6⟩ := open_things (f := Rq.cells) (good := Rq.Fits) (s := 6) (fun _ => rfl) (by omega) Try.underlying29 (by kernel_rfl) (fun n cs z hl hz => trod_req hl hz) h
  exact ⟨l, h1, ⟨by omega, h3, h4, h5, h6⟩⟩
theorem open_votes {n : Nat} {A : Option Addr} {len cap : Nat} {y : DataW H × List MemPlace} (h : DataW.trod enc Try.prog w base (fun _ => true) held n 46 [.slice A len cap] = some y) :
    ∃ l : List Vt, l.length = len ∧ IsVotes w A l cap := by
  obtain ⟨l, h1, h2, h3, h4, h5, h6⟩ := open_things (f := Vt.cells) (good := Vt.Fits) (s := 2) (fun _ => rfl) (by omega) Try.underlying46 (by kernel_rfl) (fun n cs z hl hz => trod_vote hl hz) h
  exact ⟨l, h1, ⟨by omega, h3, h4, h5, h6⟩⟩
theorem trod_cert {n : Nat} {cs : List Value} {z : DataW H × List MemPlace} (hl : cs.length = 5) (h : DataW.trod enc Try.prog w base (fun _ => true) held n 48 cs = some z) : ∃ x : Cs, cs = x.cells ∧ x.Came w := by
  match cs, hl with
  | [c0, c1, c2, c3, c4], _ =>
    have k3 : Try.prog.cellsOf 3 = 1 := by kernel_rfl
    have kr : Try.prog.cellsOf 29 = 1 := by kernel_rfl
    have kv : Try.prog.cellsOf 46 = 1 := by kernel_rfl
    obtain ⟨xs, m, _, _, _, hxl, hf⟩ := DataW.trod_struct Try.underlying48 h
    have hxl : xs.length = 5 := hxl
    obtain ⟨y0, e0⟩ := at_field hf 0 3 0 1 rfl k3 (by omega)
    obtain ⟨y1, e1⟩ := at_field hf 1 3 1 1 rfl k3 (by omega)
    obtain ⟨y2, e2⟩ := at_field hf 2 3 2 1 rfl k3 (by omega)
    obtain ⟨y3, e3⟩ := at_field hf 3 29 3 1 rfl kr (by omega)
    obtain ⟨y4, e4⟩ := at_field hf 4 46 4 1 rfl kv (by omega)
    simp only [List.drop_zero, List.drop_succ_cons, List.take_succ_cons, List.take_zero] at e0 e1 e2 e3 e4
    obtain ⟨a0, h0, f0⟩ := trod_i64 e0
    obtain ⟨a1, h1, f1⟩ := trod_i64 e1
    obtain ⟨a2, h2, f2⟩ := trod_i64 e2
    obtain ⟨A3, l3, d3, h3⟩ := trod_is_slice Try.underlying29 e3
    obtain ⟨A4, l4, d4, h4⟩ := trod_is_slice Try.underlying46 e4
    cases h0; cases h1; cases h2; cases h3; cases h4
    obtain ⟨b, rfl, hb⟩ := open_reqs e3
    obtain ⟨v, rfl, hv⟩ := open_votes e4
    exact ⟨⟨⟨a0, a1, a2, b, v⟩, A3, d3, A4, d4⟩, rfl, ⟨f0, f1, f2, hb, hv⟩⟩
theorem open_certs {n : Nat} {A : Option Addr} {len cap : Nat} {y : DataW H × List MemPlace} (h : DataW.trod enc Try.prog w base (fun _ => true) held n 105 [.slice A len cap] = some y) :
    ∃ l : List Ct, l.length = len ∧ IsCerts w A l cap := by
  obtain ⟨L, h1, h2, h3, h4, h5, h6⟩ := open_things (f := Cs.cells) (good := Cs.Came w) (s := 5) (fun _ => rfl) (by omega) Try.underlying105 (by kernel_rfl) (fun n cs z hl hz => trod_cert hl hz) h
  exact ⟨L.map Cs.c, by simpa using h1, ⟨by simp; omega, h3, h4, L, rfl, h5, h6⟩⟩
end
end Go.Proofs.Ytcebnmhkbhhfiaa
