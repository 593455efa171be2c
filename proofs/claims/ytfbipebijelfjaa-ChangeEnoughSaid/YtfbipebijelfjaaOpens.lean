/- Arguments that came in: slices of requests, votes, certificates, parts, opened to cells. -/
import Derived.Test.YtfbipebijelfjaaLists
import Derived.Deep.Slices
import Derived.Deep.Fields
import Derived.ChangeSame
import Derived.ProofKit
import Derived.OpenShut
namespace Go.Proofs.Ytfbipebijelfjaa
open Go.RowKit Go.ChangeShapes Go.WideShapes Go.Deep

structure Rq.Fits (r : Rq) : Prop where
  cl : fit r.cl
  tm : fit r.tm
  kd : fit r.kd
  ky : fit r.ky
  vl : fit r.vl
  sg : fit r.sg
structure Vt.Fits (v : Vt) : Prop where
  nd : fit v.nd
  sg : fit v.sg
/-- A slice of requests that came in. -/
structure IsReqs (w : World) (A : Option Addr) (l : List Rq) (c : Nat) : Prop where
  le : l.length ≤ c
  most : c ≤ maxLen
  nil : A = none → c = 0
  has : Has w w.heap.size A (reqCells l)
  fits : ∀ x ∈ l, x.Fits
structure IsVotes (w : World) (A : Option Addr) (l : List Vt) (c : Nat) : Prop where
  le : l.length ≤ c
  most : c ≤ maxLen
  nil : A = none → c = 0
  has : Has w w.heap.size A (voteCells l)
  fits : ∀ x ∈ l, x.Fits
/-- A certificate whose lists came in. -/
structure Cs.Came (w : World) (x : Cs) : Prop where
  vw : fit x.c.vw
  ins : fit x.c.ins
  sq : fit x.c.sq
  bt : IsReqs w x.A1 x.c.bt x.c1
  vs : IsVotes w x.A2 x.c.vs x.c2
structure IsCerts (w : World) (A : Option Addr) (l : List Ct) (c : Nat) : Prop where
  le : l.length ≤ c
  most : c ≤ maxLen
  nil : A = none → c = 0
  lies : ∃ L : List Cs, L.map Cs.c = l ∧ Has w w.heap.size A (L.flatMap Cs.cells) ∧ ∀ x ∈ L, x.Came w
structure Ps.Came (w : World) (x : Ps) : Prop where
  fr : fit x.p.fr
  sg : fit x.p.sg
  vs : IsVotes w x.A1 x.p.vs x.c1
  cs : IsCerts w x.A2 x.p.cs x.c2
structure IsParts (w : World) (A : Option Addr) (l : List Pt) (c : Nat) : Prop where
  le : l.length ≤ c
  most : c ≤ maxLen
  nil : A = none → c = 0
  lies : ∃ L : List Ps, L.map Ps.p = l ∧ Has w w.heap.size A (L.flatMap Ps.cells) ∧ ∀ x ∈ L, x.Came w
theorem IsCerts.has {w : World} {A : Option Addr} {l : List Ct} {c : Nat} (h : IsCerts w A l c) : HasCerts w w.heap.size A l := by
  obtain ⟨L, h1, h2, h3⟩ := h.lies
  exact ⟨L, h1, h2, fun x hx => ⟨(h3 x hx).bt.has, (h3 x hx).vs.has⟩⟩
theorem IsParts.has {w : World} {A : Option Addr} {l : List Pt} {c : Nat} (h : IsParts w A l c) : HasParts w w.heap.size A l := by
  obtain ⟨L, h1, h2, h3⟩ := h.lies
  exact ⟨L, h1, h2, fun x hx => ⟨(h3 x hx).vs.has, (h3 x hx).cs.has⟩⟩

section
variable {H : Type} {enc : TypeId × Value → H} {P : Program} {w : World} {base : Nat} {held : Bool}
end
section
variable {H : Type} {enc : TypeId × Value → H} {w : World} {base : Nat} {held : Bool}
theorem trod_vote {n : Nat} {cs : List Value} {z : DataW H × List MemPlace} (hl : cs.length = 2) (h : DataW.trod enc Try.prog w base (fun _ => true) held n 35 cs = some z) : ∃ r : Vt, cs = r.cells ∧ r.Fits := by
  match cs, hl with
  | [c0, c1], _ =>
    have k3 : Try.prog.cellsOf 3 = 1 := by kernel_rfl
    obtain ⟨xs, m, _, _, _, hxl, hf⟩ := DataW.trod_struct Try.underlying35 h
    have hxl : xs.length = 2 := hxl
    obtain ⟨y0, e0⟩ := at_field hf 0 3 0 1 rfl k3 (by omega)
    obtain ⟨y1, e1⟩ := at_field hf 1 3 1 1 rfl k3 (by omega)
    obtain ⟨a0, h0, f0⟩ := trod_i64 e0
    obtain ⟨a1, h1, f1⟩ := trod_i64 e1
    simp only [List.drop_zero, List.drop_succ_cons, List.take_succ_cons, List.take_zero] at h0 h1
    cases h0; cases h1
    exact ⟨⟨a0, a1⟩, rfl, ⟨f0, f1⟩⟩
theorem open_votes {n : Nat} {A : Option Addr} {len cap : Nat} {y : DataW H × List MemPlace} (h : DataW.trod enc Try.prog w base (fun _ => true) held n 31 [.slice A len cap] = some y) :
    ∃ l : List Vt, l.length = len ∧ IsVotes w A l cap := by
  obtain ⟨l, h1, h2, h3, h4, h5, h6⟩ := open_things (f := Vt.cells) (good := Vt.Fits) (s := 2) (fun _ => rfl) (by omega) Try.underlying31 (by kernel_rfl) (fun n cs z hl hz => trod_vote hl hz) h
  exact ⟨l, h1, ⟨by omega, h3, h4, h5, h6⟩⟩
end
end Go.Proofs.Ytfbipebijelfjaa
