/- Arguments that came in: slices of requests, votes, certificates, parts, opened to cells. -/
import Derived.Test.YtkkaedcgpbjbmaaLists
import Derived.Deep.Slices
import Derived.Deep.Fields
import Derived.ChangeSame
import Derived.ProofKit
import Derived.OpenShut
namespace Go.Proofs.Ytkkaedcgpbjbmaa
open Go.RowKit Go.ChangeShapes Go.WideShapes Go.Deep

def fit (z : Int) : Prop := (Lit.int .i64 z).wf = true
structure Rq.Fits (r : Rq) : Prop where
  cl : fit r.cl
  tm : fit r.tm
  kd : fit r.kd
  ky : fit r.ky
  vl : fit r.vl
  sg : fit r.sg
structure Vt.Fits (v : Vt) : Prop where
  nd : fit v.nd
  sg : fit v.sg
/-- A slice of requests that came in. -/
structure IsReqs (w : World) (A : Option Addr) (l : List Rq) (c : Nat) : Prop where
  le : l.length ≤ c
  most : c ≤ maxLen
  nil : A = none → c = 0
  has : Has w w.heap.size A (reqCells l)
  fits : ∀ x ∈ l, x.Fits
structure IsVotes (w : World) (A : Option Addr) (l : List Vt) (c : Nat) : Prop where
  le : l.length ≤ c
  most : c ≤ maxLen
  nil : A = none → c = 0
  has : Has w w.heap.size A (voteCells l)
  fits : ∀ x ∈ l, x.Fits
/-- A certificate whose lists came in. -/
structure Cs.Came (w : World) (x : Cs) : Prop where
  vw : fit x.c.vw
  ins : fit x.c.ins
  sq : fit x.c.sq
  bt : IsReqs w x.A1 x.c.bt x.c1
  vs : IsVotes w x.A2 x.c.vs x.c2
structure IsCerts (w : World) (A : Option Addr) (l : List Ct) (c : Nat) : Prop where
  le : l.length ≤ c
  most : c ≤ maxLen
  nil : A = none → c = 0
  lies : ∃ L : List Cs, L.map Cs.c = l ∧ Has w w.heap.size A (L.flatMap Cs.cells) ∧ ∀ x ∈ L, x.Came w
structure Ps.Came (w : World) (x : Ps) : Prop where
  fr : fit x.p.fr
  sg : fit x.p.sg
  vs : IsVotes w x.A1 x.p.vs x.c1
  cs : IsCerts w x.A2 x.p.cs x.c2
structure IsParts (w : World) (A : Option Addr) (l : List Pt) (c : Nat) : Prop where
  le : l.length ≤ c
  most : c ≤ maxLen
  nil : A = none → c = 0
  lies : ∃ L : List Ps, L.map Ps.p = l ∧ Has w w.heap.size A (L.flatMap Ps.cells) ∧ ∀ x ∈ L, x.Came w
theorem IsCerts.has {w : World} {A : Option Addr} {l : List Ct} {c : Nat} (h : IsCerts w A l c) : HasCerts w w.heap.size A l := by
  obtain ⟨L, h1, h2, h3⟩ := h.lies
  exact ⟨L, h1, h2, fun x hx => ⟨(h3 x hx).bt.has, (h3 x hx).vs.has⟩⟩
theorem IsParts.has {w : World} {A : Option Addr} {l : List Pt} {c : Nat} (h : IsParts w A l c) : HasParts w w.heap.size A l := by
  obtain ⟨L, h1, h2, h3⟩ := h.lies
  exact ⟨L, h1, h2, fun x hx => ⟨(h3 x hx).vs.has, (h3 x hx).cs.has⟩⟩

theorem choose_list {α : Type} {n : Nat} {p : Nat → α → Prop} (h : ∀ i, i < n → ∃ x, p i x) : ∃ l : List α, l.length = n ∧ ∀ i (hi : i < l.length), p i l[i] := by
  induction n with
  | zero => exact ⟨[], rfl, fun i hi => absurd hi (by simp)⟩
  | succ n ih =>
    obtain ⟨l, hl, h1⟩ := ih fun i hi => h i (by omega)
    obtain ⟨x, hx⟩ := h n (by omega)
    refine ⟨l ++ [x], by simp [hl], fun i hi => ?_⟩
    by_cases hin : i < l.length
    · rw [List.getElem_append_left hin]; exact h1 i hin
    · have hie : i = n := by simp at hi; omega
      subst hie
      rw [List.getElem_append_right (by omega)]
      simpa using hx
/-- Each cell of a row of things of s cells each is a cell of one of them. -/
theorem flatMap_get {α : Type} {f : α → List Value} {s : Nat} (hf : ∀ x, (f x).length = s) (h0 : 0 < s) {l : List α} {j : Nat} {u : Value} (h : (l.flatMap f)[j]? = some u) :
    ∃ (k i : Nat) (hk : k < l.length), i < s ∧ j = k * s + i ∧ (f l[k])[i]? = some u := by
  have hj : j < l.length * s := by rw [← flatMap_len hf l]; exact (List.getElem?_eq_some_iff.1 h).1
  have hk : j / s < l.length := (Nat.div_lt_iff_lt_mul h0).2 hj
  have hi : j % s < s := Nat.mod_lt _ h0
  have he : j = j / s * s + j % s := by rw [Nat.mul_comm]; exact (Nat.div_add_mod j s).symm
  refine ⟨j / s, j % s, hk, hi, he, ?_⟩
  rw [← flatMap_at hf hk hi, ← he, h]

section
variable {H : Type} {enc : TypeId × Value → H} {P : Program} {w : World} {base : Nat} {held : Bool}
theorem open_things {α : Type} {f : α → List Value} {good : α → Prop} {s : Nat} {t e : TypeId} {fuel : Nat} {A : Option Addr} {len cap : Nat} {y : DataW H × List MemPlace} (hf : ∀ x, (f x).length = s) (h0 : 0 < s)
    (ht : P.underlying t = some (.slice e)) (hc : P.cellsOf e = s)
    (hel : ∀ n cs z, cs.length = s → DataW.trod enc P w base (fun _ => true) held n e cs = some z → ∃ x, cs = f x ∧ good x)
    (h : DataW.trod enc P w base (fun _ => true) held fuel t [.slice A len cap] = some y) :
    ∃ l : List α, l.length = len ∧ len ≤ cap ∧ cap ≤ maxLen ∧ (A = none → cap = 0) ∧ Has w w.heap.size A (l.flatMap f) ∧ ∀ x ∈ l, good x := by
  rcases open_slice ht h with ⟨hcs, _⟩ | ⟨a, len', cap', m, n, D, Pl, hcs, _, hl, hm, hmm, _, hx⟩
  · injection hcs with hcs
    injection hcs with h1 h2 h3
    subst h1; subst h2; subst h3
    exact ⟨[], rfl, Nat.le_refl _, Nat.zero_le _, fun _ => rfl, Has.nil _ _ _, by simp⟩
  · injection hcs with hcs
    injection hcs with h1 h2 h3
    subst h1; subst h2; subst h3
    simp only [if_true] at hmm
    rw [hc] at hx
    obtain ⟨l, hll, hl1⟩ := choose_list (n := len) (p := fun i x => (∀ j u, (f x)[j]? = some u → w.cell? (a.add (i * s + j)) = some u) ∧ good x) (fun i hi => by
      obtain ⟨cs', h1, h2⟩ := hx i (by omega)
      obtain ⟨_, h4, h5⟩ := World.cells?_some h1
      obtain ⟨x, rfl, hg⟩ := hel n cs' _ h4 h2
      refine ⟨x, fun j u hj => ?_, hg⟩
      have hjs : j < s := by rw [← hf x]; exact (List.getElem?_eq_some_iff.1 hj).1
      rw [← Go.Proofs.Ytkkaedcgpbjbmaa.addr_add, h5 j hjs, hj])
    refine ⟨l, hll, hl, hm, (fun h => by cases h), fun j u hj => ?_, fun x hx => ?_⟩
    · obtain ⟨k, i, hk, hi, rfl, hv⟩ := flatMap_get hf h0 hj
      have hcell := (hl1 k hk).1 i u hv
      have hb := block_lt hcell
      rw [addr_block] at hb
      exact ⟨a, rfl, hb, hcell⟩
    · obtain ⟨k, hk, rfl⟩ := List.getElem_of_mem hx
      exact (hl1 k hk).2
end
section
variable {H : Type} {enc : TypeId × Value → H} {w : World} {base : Nat} {held : Bool}
theorem trod_i64 {n : Nat} {cs : List Value} {z : DataW H × List MemPlace} (h : DataW.trod enc Try.prog w base (fun _ => true) held n 3 cs = some z) : ∃ k, cs = [.int .i64 k] ∧ fit k := by
  obtain ⟨k, h1, _, h2⟩ := DataW.trod_int Try.underlying3 h
  exact ⟨k, h1, h2⟩
theorem at_field {fs : Array Field} {n : Nat} {cs : List Value} {xs : List (DataW H × List MemPlace)} (hf : ∀ (i : Nat) (f : Field), fs[i]? = some f → DataW.trod enc Try.prog w base (fun _ => true) held n f.type ((cs.drop f.offset).take (Try.prog.cellsOf f.type)) = xs[i]?)
    (i t o k : Nat) (hi : (fs[i]?).map (fun f => (f.type, f.offset)) = some (t, o)) (hk : Try.prog.cellsOf t = k) (hx : i < xs.length) : ∃ y, DataW.trod enc Try.prog w base (fun _ => true) held n t ((cs.drop o).take k) = some y := by
  rw [Option.map_eq_some_iff] at hi
  obtain ⟨f, h1, h2⟩ := hi
  injection h2 with h2 h3
  subst h2; subst h3; subst hk
  exact ⟨xs[i], by rw [hf i f h1]; exact List.getElem?_eq_getElem hx⟩
theorem some_of {α : Type} {l : List α} {i : Nat} {o : Option α} (h : o = l[i]?) (hi : i < l.length) : ∃ x, o = some x := ⟨l[i], by rw [h]; exact List.getElem?_eq_getElem hi⟩
theorem trod_req {n : Nat} {cs : List Value} {z : DataW H × List MemPlace} (hl : cs.length = 6) (h : DataW.trod enc Try.prog w base (fun _ => true) held n 31 cs = some z) : ∃ r : Rq, cs = r.cells ∧ r.Fits := by
  match cs, hl with
  | [c0, c1, c2, c3, c4, c5], _ =>
    have k3 : Try.prog.cellsOf 3 = 1 := by kernel_rfl
    have k29 : Try.prog.cellsOf 29 = 3 := by kernel_rfl
    obtain ⟨xs, m, _, _, _, hxl, hf⟩ := DataW.trod_struct Try.underlying31 h
    have hxl : xs.length = 4 := hxl
    obtain ⟨y0, e0⟩ := at_field hf 0 3 0 1 rfl k3 (by omega)
    obtain ⟨y1, e1⟩ := at_field hf 1 3 1 1 rfl k3 (by omega)
    obtain ⟨y2, e2⟩ := at_field hf 2 29 2 3 rfl k29 (by omega)
    obtain ⟨y3, e3⟩ := at_field hf 3 3 5 1 rfl k3 (by omega)
    obtain ⟨a0, h0, f0⟩ := trod_i64 e0
    obtain ⟨a1, h1, f1⟩ := trod_i64 e1
    obtain ⟨a3, h3, f3⟩ := trod_i64 e3
    obtain ⟨xs2, m2, _, _, _, hxl2, hf2⟩ := DataW.trod_struct Try.underlying29 e2
    have hxl2 : xs2.length = 3 := hxl2
    obtain ⟨y4, e4⟩ := at_field hf2 0 3 0 1 rfl k3 (by omega)
    obtain ⟨y5, e5⟩ := at_field hf2 1 3 1 1 rfl k3 (by omega)
    obtain ⟨y6, e6⟩ := at_field hf2 2 3 2 1 rfl k3 (by omega)
    obtain ⟨a4, h4, f4⟩ := trod_i64 e4
    obtain ⟨a5, h5, f5⟩ := trod_i64 e5
    obtain ⟨a6, h6, f6⟩ := trod_i64 e6
    simp only [List.drop_zero, List.drop_succ_cons, List.take_succ_cons, List.take_zero] at h0 h1 h3 h4 h5 h6
    cases h0; cases h1; cases h3; cases h4; cases h5; cases h6
    exact ⟨⟨a0, a1, a4, a5, a6, a3⟩, rfl, ⟨f0, f1, f4, f5, f6, f3⟩⟩
theorem trod_vote {n : Nat} {cs : List Value} {z : DataW H × List MemPlace} (hl : cs.length = 2) (h : DataW.trod enc Try.prog w base (fun _ => true) held n 43 cs = some z) : ∃ r : Vt, cs = r.cells ∧ r.Fits := by
  match cs, hl with
  | [c0, c1], _ =>
    have k3 : Try.prog.cellsOf 3 = 1 := by kernel_rfl
    obtain ⟨xs, m, _, _, _, hxl, hf⟩ := DataW.trod_struct Try.underlying43 h
    have hxl : xs.length = 2 := hxl
    obtain ⟨y0, e0⟩ := at_field hf 0 3 0 1 rfl k3 (by omega)
    obtain ⟨y1, e1⟩ := at_field hf 1 3 1 1 rfl k3 (by omega)
    obtain ⟨a0, h0, f0⟩ := trod_i64 e0
    obtain ⟨a1, h1, f1⟩ := trod_i64 e1
    simp only [List.drop_zero, List.drop_succ_cons, List.take_succ_cons, List.take_zero] at h0 h1
    cases h0; cases h1
    exact ⟨⟨a0, a1⟩, rfl, ⟨f0, f1⟩⟩
theorem open_reqs {n : Nat} {A : Option Addr} {len cap : Nat} {y : DataW H × List MemPlace} (h : DataW.trod enc Try.prog w base (fun _ => true) held n 22 [.slice A len cap] = some y) :
    ∃ l : List Rq, l.length = len ∧ IsReqs w A l cap := by
  obtain ⟨l, h1, h2, h3, h4, h5, h6⟩ := open_things (f := Rq.cells) (good := Rq.Fits) (s := 6) (fun _ => rfl) (by omega) Try.underlying22 (by kernel_rfl) (fun n cs z hl hz => trod_req hl hz) h
  exact ⟨l, h1, ⟨by omega, h3, h4, h5, h6⟩⟩
theorem open_votes {n : Nat} {A : Option Addr} {len cap : Nat} {y : DataW H × List MemPlace} (h : DataW.trod enc Try.prog w base (fun _ => true) held n 36 [.slice A len cap] = some y) :
    ∃ l : List Vt, l.length = len ∧ IsVotes w A l cap := by
  obtain ⟨l, h1, h2, h3, h4, h5, h6⟩ := open_things (f := Vt.cells) (good := Vt.Fits) (s := 2) (fun _ => rfl) (by omega) Try.underlying36 (by kernel_rfl) (fun n cs z hl hz => trod_vote hl hz) h
  exact ⟨l, h1, ⟨by omega, h3, h4, h5, h6⟩⟩
theorem trod_is_slice {n : Nat} {t e : TypeId} {cs : List Value} {y : DataW H × List MemPlace} (ht : Try.prog.underlying t = some (.slice e)) (h : DataW.trod enc Try.prog w base (fun _ => true) held n t cs = some y) : ∃ A l c, cs = [.slice A l c] := by
  rcases open_slice ht h with ⟨hcs, _⟩ | ⟨a, len', cap', m, n, D, Pl, hcs, _⟩
  · exact ⟨_, _, _, hcs⟩
  · exact ⟨_, _, _, hcs⟩
theorem trod_cert {n : Nat} {cs : List Value} {z : DataW H × List MemPlace} (hl : cs.length = 5) (h : DataW.trod enc Try.prog w base (fun _ => true) held n 85 cs = some z) : ∃ x : Cs, cs = x.cells ∧ x.Came w := by
  match cs, hl with
  | [c0, c1, c2, c3, c4], _ =>
    have k3 : Try.prog.cellsOf 3 = 1 := by kernel_rfl
    have kr : Try.prog.cellsOf 22 = 1 := by kernel_rfl
    have kv : Try.prog.cellsOf 36 = 1 := by kernel_rfl
    obtain ⟨xs, m, _, _, _, hxl, hf⟩ := DataW.trod_struct Try.underlying85 h
    have hxl : xs.length = 5 := hxl
    obtain ⟨y0, e0⟩ := at_field hf 0 3 0 1 rfl k3 (by omega)
    obtain ⟨y1, e1⟩ := at_field hf 1 3 1 1 rfl k3 (by omega)
    obtain ⟨y2, e2⟩ := at_field hf 2 3 2 1 rfl k3 (by omega)
    obtain ⟨y3, e3⟩ := at_field hf 3 22 3 1 rfl kr (by omega)
    obtain ⟨y4, e4⟩ := at_field hf 4 36 4 1 rfl kv (by omega)
    simp only [List.drop_zero, List.drop_succ_cons, List.take_succ_cons, List.take_zero] at e0 e1 e2 e3 e4
    obtain ⟨a0, h0, f0⟩ := trod_i64 e0
    obtain ⟨a1, h1, f1⟩ := trod_i64 e1
    obtain ⟨a2, h2, f2⟩ := trod_i64 e2
    obtain ⟨A3, l3, d3, h3⟩ := trod_is_slice Try.underlying22 e3
    obtain ⟨A4, l4, d4, h4⟩ := trod_is_slice Try.underlying36 e4
    cases h0; cases h1; cases h2; cases h3; cases h4
    obtain ⟨b, rfl, hb⟩ := open_reqs e3
    obtain ⟨v, rfl, hv⟩ := open_votes e4
    exact ⟨⟨⟨a0, a1, a2, b, v⟩, A3, d3, A4, d4⟩, rfl, ⟨f0, f1, f2, hb, hv⟩⟩
theorem open_certs {n : Nat} {A : Option Addr} {len cap : Nat} {y : DataW H × List MemPlace} (h : DataW.trod enc Try.prog w base (fun _ => true) held n 35 [.slice A len cap] = some y) :
    ∃ l : List Ct, l.length = len ∧ IsCerts w A l cap := by
  obtain ⟨L, h1, h2, h3, h4, h5, h6⟩ := open_things (f := Cs.cells) (good := Cs.Came w) (s := 5) (fun _ => rfl) (by omega) Try.underlying35 (by kernel_rfl) (fun n cs z hl hz => trod_cert hl hz) h
  exact ⟨L.map Cs.c, by simpa using h1, ⟨by simp; omega, h3, h4, L, rfl, h5, h6⟩⟩
theorem trod_part {n : Nat} {cs : List Value} {z : DataW H × List MemPlace} (hl : cs.length = 4) (h : DataW.trod enc Try.prog w base (fun _ => true) held n 99 cs = some z) : ∃ x : Ps, cs = x.cells ∧ x.Came w := by
  match cs, hl with
  | [c0, c1, c2, c3], _ =>
    have k3 : Try.prog.cellsOf 3 = 1 := by kernel_rfl
    have kr : Try.prog.cellsOf 36 = 1 := by kernel_rfl
    have kv : Try.prog.cellsOf 35 = 1 := by kernel_rfl
    obtain ⟨xs, m, _, _, _, hxl, hf⟩ := DataW.trod_struct Try.underlying99 h
    have hxl : xs.length = 4 := hxl
    obtain ⟨y0, e0⟩ := at_field hf 0 3 0 1 rfl k3 (by omega)
    obtain ⟨y1, e1⟩ := at_field hf 1 36 1 1 rfl kr (by omega)
    obtain ⟨y2, e2⟩ := at_field hf 2 35 2 1 rfl kv (by omega)
    obtain ⟨y3, e3⟩ := at_field hf 3 3 3 1 rfl k3 (by omega)
    simp only [List.drop_zero, List.drop_succ_cons, List.take_succ_cons, List.take_zero] at e0 e1 e2 e3
    obtain ⟨a0, h0, f0⟩ := trod_i64 e0
    obtain ⟨a3, h3, f3⟩ := trod_i64 e3
    obtain ⟨A1, l1, d1, h1⟩ := trod_is_slice Try.underlying36 e1
    obtain ⟨A2, l2, d2, h2⟩ := trod_is_slice Try.underlying35 e2
    cases h0; cases h1; cases h2; cases h3
    obtain ⟨v, rfl, hv⟩ := open_votes e1
    obtain ⟨c, rfl, hc⟩ := open_certs e2
    exact ⟨⟨⟨a0, v, c, a3⟩, A1, d1, A2, d2⟩, rfl, ⟨f0, f3, hv, hc⟩⟩
theorem open_parts {n : Nat} {A : Option Addr} {len cap : Nat} {y : DataW H × List MemPlace} (h : DataW.trod enc Try.prog w base (fun _ => true) held n 59 [.slice A len cap] = some y) :
    ∃ l : List Pt, l.length = len ∧ IsParts w A l cap := by
  obtain ⟨L, h1, h2, h3, h4, h5, h6⟩ := open_things (f := Ps.cells) (good := Ps.Came w) (s := 4) (fun _ => rfl) (by omega) Try.underlying59 (by kernel_rfl) (fun n cs z hl hz => trod_part hl hz) h
  exact ⟨L.map Ps.p, by simpa using h1, ⟨by simp; omega, h3, h4, L, rfl, h5, h6⟩⟩
end
end Go.Proofs.Ytkkaedcgpbjbmaa
