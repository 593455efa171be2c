/- Words on memory: slices of requests, votes, certificates, parts. -/
import Derived.Test.YtcebnmhkbhhfiaaThings
import Derived.Test.YtcebnmhkbhhfiaaForms
namespace Go.Proofs.Ytcebnmhkbhhfiaa
open Go.RowKit

def Rq.cells (r : Rq) : List Value := [.int .i64 r.cl, .int .i64 r.tm, .int .i64 r.kd, .int .i64 r.ky, .int .i64 r.vl, .int .i64 r.sg]
def Vt.cells (v : Vt) : List Value := [.int .i64 v.nd, .int .i64 v.sg]
def reqCells (l : List Rq) : List Value := l.flatMap Rq.cells
def voteCells (l : List Vt) : List Value := l.flatMap Vt.cells
theorem reqCells_len (l : List Rq) : (reqCells l).length = l.length * 6 := flatMap_len (s := 6) (f := Rq.cells) (fun _ => rfl) l
theorem voteCells_len (l : List Vt) : (voteCells l).length = l.length * 2 := flatMap_len (s := 2) (f := Vt.cells) (fun _ => rfl) l
/-- A thing of a row. -/
theorem Has.req {w : World} {B : Nat} {A : Option Addr} {l : List Rq} (h : Has w B A (reqCells l)) {k : Nat} (hk : k < l.length) :
    ∃ ad, A = some ad ∧ ad.block < B ∧ w.cell? (ad.add (k * 6)) = some (.int .i64 l[k].cl) ∧ w.cell? ⟨(ad.add (k * 6)).block, (ad.add (k * 6)).off + 1, none⟩ = some (.int .i64 l[k].tm) ∧
      w.cell? ⟨(ad.add (k * 6)).block, (ad.add (k * 6)).off + 2, none⟩ = some (.int .i64 l[k].kd) ∧ w.cell? ⟨(ad.add (k * 6)).block, (ad.add (k * 6)).off + 3, none⟩ = some (.int .i64 l[k].ky) ∧
      w.cell? ⟨(ad.add (k * 6)).block, (ad.add (k * 6)).off + 4, none⟩ = some (.int .i64 l[k].vl) ∧ w.cell? ⟨(ad.add (k * 6)).block, (ad.add (k * 6)).off + 5, none⟩ = some (.int .i64 l[k].sg) := by
  obtain ⟨ad, e, hb, hc⟩ := h.thing (f := Rq.cells) (s := 6) (fun _ => rfl) (by omega) hk
  refine ⟨ad, e, hb, hc 0 _ rfl, ?_, ?_, ?_, ?_, ?_⟩
  · rw [← add_pos _ _ _ (by omega)]; exact hc 1 _ rfl
  · rw [← add_pos _ _ _ (by omega)]; exact hc 2 _ rfl
  · rw [← add_pos _ _ _ (by omega)]; exact hc 3 _ rfl
  · rw [← add_pos _ _ _ (by omega)]; exact hc 4 _ rfl
  · rw [← add_pos _ _ _ (by omega)]; exact hc 5 _ rfl
theorem Has.vote {w : World} {B : Nat} {A : Option Addr} {l : List Vt} (h : Has w B A (voteCells l)) {k : Nat} (hk : k < l.length) :
    ∃ ad, A = some ad ∧ ad.block < B ∧ w.cell? (ad.add (k * 2)) = some (.int .i64 l[k].nd) ∧ w.cell? ⟨(ad.add (k * 2)).block, (ad.add (k * 2)).off + 1, none⟩ = some (.int .i64 l[k].sg) := by
  obtain ⟨ad, e, hb, hc⟩ := h.thing (f := Vt.cells) (s := 2) (fun _ => rfl) (by omega) hk
  refine ⟨ad, e, hb, hc 0 _ rfl, ?_⟩
  rw [← add_pos _ _ _ (by omega)]; exact hc 1 _ rfl
/-- A certificate as it lies: it, and where its lists are. -/
structure Cs where
  c : Ct
  A1 : Option Addr
  c1 : Nat
  A2 : Option Addr
  c2 : Nat
def Cs.cells (x : Cs) : List Value := [.int .i64 x.c.vw, .int .i64 x.c.ins, .int .i64 x.c.sq, .slice x.A1 x.c.bt.length x.c1, .slice x.A2 x.c.vs.length x.c2]
structure Cs.In (w : World) (B : Nat) (x : Cs) : Prop where
  bt : Has w B x.A1 (reqCells x.c.bt)
  vs : Has w B x.A2 (voteCells x.c.vs)
/-- The slice at A reads as certificates. -/
def HasCerts (w : World) (B : Nat) (A : Option Addr) (l : List Ct) : Prop := ∃ L : List Cs, L.map Cs.c = l ∧ Has w B A (L.flatMap Cs.cells) ∧ ∀ x ∈ L, x.In w B
/-- A part as it lies. -/
structure Ps where
  p : Pt
  A1 : Option Addr
  c1 : Nat
  A2 : Option Addr
  c2 : Nat
def Ps.cells (x : Ps) : List Value := [.int .i64 x.p.fr, .slice x.A1 x.p.vs.length x.c1, .slice x.A2 x.p.cs.length x.c2, .int .i64 x.p.sg]
structure Ps.In (w : World) (B : Nat) (x : Ps) : Prop where
  vs : Has w B x.A1 (voteCells x.p.vs)
  cs : HasCerts w B x.A2 x.p.cs
def HasParts (w : World) (B : Nat) (A : Option Addr) (l : List Pt) : Prop := ∃ L : List Ps, L.map Ps.p = l ∧ Has w B A (L.flatMap Ps.cells) ∧ ∀ x ∈ L, x.In w B
/-- What reads in w reads so in w'. -/
def Reads (B B' : Nat) (w w' : World) : Prop := ∀ A xs, Has w B A xs → Has w' B' A xs
section
variable {w w' : World} {B B' : Nat}
theorem Cs.In.reads {x : Cs} (h : x.In w B) (hr : Reads B B' w w') : x.In w' B' := ⟨hr _ _ h.bt, hr _ _ h.vs⟩
theorem HasCerts.reads {A : Option Addr} {l : List Ct} (h : HasCerts w B A l) (hr : Reads B B' w w') : HasCerts w' B' A l := by
  obtain ⟨L, h1, h2, h3⟩ := h
  exact ⟨L, h1, hr _ _ h2, fun x hx => (h3 x hx).reads hr⟩
theorem Ps.In.reads {x : Ps} (h : x.In w B) (hr : Reads B B' w w') : x.In w' B' := ⟨hr _ _ h.vs, h.cs.reads hr⟩
theorem HasParts.reads {A : Option Addr} {l : List Pt} (h : HasParts w B A l) (hr : Reads B B' w w') : HasParts w' B' A l := by
  obtain ⟨L, h1, h2, h3⟩ := h
  exact ⟨L, h1, hr _ _ h2, fun x hx => (h3 x hx).reads hr⟩
theorem Reads.below (hb : Below B' w w') (hB : B ≤ B') : Reads B B w w' := fun _ _ h => h.below hb hB
theorem Reads.kept {g : Nat} {t : TypeId} (hk : Kept B g t w w') (hg : B ≤ g) : Reads B B w w' := fun _ _ h => hk.has hg h
theorem Reads.more (hB : B ≤ B') : Reads B B' w w := fun _ _ h => h.more hB
/-- A certificate of a row. -/
theorem HasCerts.at {A : Option Addr} {l : List Ct} (h : HasCerts w B A l) {k : Nat} (hk : k < l.length) :
    ∃ (ad : Addr) (x : Cs), A = some ad ∧ ad.block < B ∧ x.c = l[k] ∧ x.In w B ∧ w.cell? (ad.add (k * 5)) = some (.int .i64 x.c.vw) ∧ w.cell? ⟨(ad.add (k * 5)).block, (ad.add (k * 5)).off + 1, none⟩ = some (.int .i64 x.c.ins) ∧
      w.cell? ⟨(ad.add (k * 5)).block, (ad.add (k * 5)).off + 2, none⟩ = some (.int .i64 x.c.sq) ∧ w.cell? ⟨(ad.add (k * 5)).block, (ad.add (k * 5)).off + 3, none⟩ = some (.slice x.A1 x.c.bt.length x.c1) ∧
      w.cell? ⟨(ad.add (k * 5)).block, (ad.add (k * 5)).off + 4, none⟩ = some (.slice x.A2 x.c.vs.length x.c2) := by
  obtain ⟨L, rfl, h2, h3⟩ := h
  have hk' : k < L.length := by simpa using hk
  obtain ⟨ad, e, hb, hc⟩ := h2.thing (f := Cs.cells) (s := 5) (fun _ => rfl) (by omega) hk'
  refine ⟨ad, L[k], e, hb, by simp, h3 _ (List.getElem_mem hk'), hc 0 _ rfl, ?_, ?_, ?_, ?_⟩
  · rw [← add_pos _ _ _ (by omega)]; exact hc 1 _ rfl
  · rw [← add_pos _ _ _ (by omega)]; exact hc 2 _ rfl
  · rw [← add_pos _ _ _ (by omega)]; exact hc 3 _ rfl
  · rw [← add_pos _ _ _ (by omega)]; exact hc 4 _ rfl
theorem HasParts.at {A : Option Addr} {l : List Pt} (h : HasParts w B A l) {k : Nat} (hk : k < l.length) :
    ∃ (ad : Addr) (x : Ps), A = some ad ∧ ad.block < B ∧ x.p = l[k] ∧ x.In w B ∧ w.cell? (ad.add (k * 4)) = some (.int .i64 x.p.fr) ∧ w.cell? ⟨(ad.add (k * 4)).block, (ad.add (k * 4)).off + 1, none⟩ = some (.slice x.A1 x.p.vs.length x.c1) ∧
      w.cell? ⟨(ad.add (k * 4)).block, (ad.add (k * 4)).off + 2, none⟩ = some (.slice x.A2 x.p.cs.length x.c2) ∧ w.cell? ⟨(ad.add (k * 4)).block, (ad.add (k * 4)).off + 3, none⟩ = some (.int .i64 x.p.sg) := by
  obtain ⟨L, rfl, h2, h3⟩ := h
  have hk' : k < L.length := by simpa using hk
  obtain ⟨ad, e, hb, hc⟩ := h2.thing (f := Ps.cells) (s := 4) (fun _ => rfl) (by omega) hk'
  refine ⟨ad, L[k], e, hb, by simp, h3 _ (List.getElem_mem hk'), hc 0 _ rfl, ?_, ?_, ?_⟩
  · rw [← add_pos _ _ _ (by omega)]; exact hc 1 _ rfl
  · rw [← add_pos _ _ _ (by omega)]; exact hc 2 _ rfl
  · rw [← add_pos _ _ _ (by omega)]; exact hc 3 _ rfl
end
end Go.Proofs.Ytcebnmhkbhhfiaa
