/- Requests: when one is right, their order, rows in order. Nothing of the program. -/
import Derived.Test.YtbegjadohamkkaaGreatOForms
import Derived.Test.YtbegjadohamkkaaGreatOS0
import Derived.Test.YtbegjadohamkkaaGreatORefNot
import Derived.Deep.Slices
import Derived.Deep.Fields
import Derived.ChangeSame
import Derived.ProofKit
import Derived.OpenShut
import Derived.Lib.Hide
import Derived.Deep.QuietTactic
import Derived.BigQuiet
import Derived.StillTailTactics
import Derived.Deep.MidRow
import Derived.Laws.StructEq
import Derived.Outline
namespace Go.Proofs.YtbegjadohamkkaaGreat

def validS (r : Rq) (n : Int) : Bool := decide (0 ≤ r.cl ∧ r.cl < n ∧ 1 ≤ r.tm ∧ r.tm ≤ 1048576 ∧ 1 ≤ r.kd ∧ r.kd ≤ 5 ∧ 0 ≤ r.ky ∧ r.ky < 64 ∧ -2147483648 < r.vl ∧ r.vl < 2147483648 ∧ 0 ≤ r.sg ∧ r.sg < 1099511627776 ∧ (r.kd = 1 ∨ r.kd = 3 ∨ r.vl = 0) ∧ (r.kd ≠ 5 ∨ r.ky = 0))
def Rq.key (r : Rq) : List Int := [r.cl, r.tm, r.kd, r.ky, r.vl, r.sg]
theorem Rq.ext_key {a b : Rq} (h : a.key = b.key) : a = b := by
  cases a; cases b
  simp [Rq.key] at h
  obtain ⟨rfl, rfl, rfl, rfl, rfl, rfl⟩ := h
  rfl
def cmpL : List Int → List Int → Int
  | x :: l, y :: m => if x < y then -1 else if y < x then 1 else cmpL l m
  | _, _ => 0
theorem cmpL_anti : ∀ l m : List Int, cmpL m l = -cmpL l m
  | [], [] => rfl
  | [], _ :: _ => rfl
  | _ :: _, [] => rfl
  | x :: l, y :: m => by
    have := cmpL_anti l m
    unfold cmpL
    split
    · rw [if_neg (by omega)]
    · split
      · rfl
      · exact this
theorem cmpL_zero : ∀ {l m : List Int}, l.length = m.length → cmpL l m = 0 → l = m
  | [], [], _, _ => rfl
  | x :: l, y :: m, hl, h => by
    unfold cmpL at h
    split at h
    · omega
    · split at h
      · omega
      · rw [cmpL_zero (l := l) (m := m) (by simpa using hl) h, show x = y by omega]
theorem cmpL_trans : ∀ {l m n : List Int}, l.length = m.length → m.length = n.length → cmpL l m ≤ 0 → cmpL m n ≤ 0 → cmpL l n ≤ 0 ∧ (cmpL l m < 0 ∨ cmpL m n < 0 → cmpL l n < 0)
  | [], [], [], _, _, _, _ => by simp [cmpL]
  | x :: l, y :: m, z :: n, h1, h2, h3, h4 => by
    have ih := cmpL_trans (l := l) (m := m) (n := n) (by simpa using h1) (by simpa using h2)
    unfold cmpL at h3 h4 ⊢
    by_cases a : x < y
    · by_cases b : y < z
      · rw [if_pos (by omega : x < z)]; omega
      · rw [if_neg b] at h4
        by_cases c : z < y
        · rw [if_pos c] at h4; omega
        · rw [if_pos (by omega : x < z)]; omega
    · rw [if_neg a] at h3
      by_cases a' : y < x
      · rw [if_pos a'] at h3; omega
      · rw [if_neg a'] at h3
        obtain rfl : x = y := by omega
        by_cases b : x < z
        · rw [if_pos b]; omega
        · rw [if_neg b] at h4
          by_cases c : z < x
          · rw [if_pos c] at h4; omega
          · rw [if_neg c] at h4
            obtain ⟨i1, i2⟩ := ih h3 h4
            rw [if_neg b, if_neg c]
            refine ⟨i1, fun h => i2 ?_⟩
            rw [if_neg (Int.lt_irrefl x), if_neg (Int.lt_irrefl x), if_neg b, if_neg c] at h
            exact h
def cmpR (a b : Rq) : Int := cmpL a.key b.key
theorem cmpR_anti (a b : Rq) : cmpR b a = -cmpR a b := cmpL_anti _ _
theorem cmpR_zero {a b : Rq} (h : cmpR a b = 0) : a = b := Rq.ext_key (cmpL_zero rfl h)
theorem cmpR_trans {a b c : Rq} (h1 : cmpR a b < 0) (h2 : cmpR b c < 0) : cmpR a c < 0 := (cmpL_trans (l := a.key) (m := b.key) (n := c.key) rfl rfl (Int.le_of_lt h1) (Int.le_of_lt h2)).2 (Or.inl h1)
/-- A row in order, each once. -/
def Ris (l : List Rq) : Prop := l.Pairwise fun a b => cmpR a b < 0
/-- Where a request goes: behind the last one that it is not below. -/
def place (r : Rq) (out : List Rq) : Nat → Nat
  | 0 => 0
  | k + 1 => match out[k]? with
    | some x => if cmpR r x < 0 then place r out k else k + 1
    | none => k + 1
theorem place_le (r : Rq) (out : List Rq) : ∀ k, place r out k ≤ k
  | 0 => Nat.le_refl _
  | k + 1 => by
    have := place_le r out k
    unfold place
    split
    · split <;> omega
    · omega
def putS (r : Rq) (out : List Rq) (k : Nat) : List Rq := out.take k ++ r :: out.drop k
def insS (out : List Rq) (r : Rq) : List Rq := if r ∈ out then out else putS r out (place r out out.length)
theorem place_low {r : Rq} {out : List Rq} : ∀ {k : Nat}, k ≤ out.length → 0 < place r out k → ∃ x, out[place r out k - 1]? = some x ∧ 0 ≤ cmpR r x
  | 0, _, h => absurd h (by simp [place])
  | k + 1, hk, h => by
    have hx : out[k]? = some out[k] := List.getElem?_eq_getElem (by omega)
    unfold place at h ⊢
    rw [hx] at h ⊢
    by_cases hc : cmpR r out[k] < 0
    · simp only [if_pos hc] at h ⊢
      exact place_low (by omega) h
    · simp only [if_neg hc]
      exact ⟨_, hx, by omega⟩
theorem place_high {r : Rq} {out : List Rq} : ∀ {k : Nat}, k ≤ out.length → ∀ j, place r out k ≤ j → j < k → ∃ x, out[j]? = some x ∧ cmpR r x < 0
  | 0, _, j, _, h => absurd h (by omega)
  | k + 1, hk, j, h1, h2 => by
    have hx : out[k]? = some out[k] := List.getElem?_eq_getElem (by omega)
    unfold place at h1
    rw [hx] at h1
    by_cases hc : cmpR r out[k] < 0
    · simp only [if_pos hc] at h1
      by_cases hj : j = k
      · subst hj; exact ⟨_, hx, hc⟩
      · exact place_high (by omega) j h1 (by omega)
    · simp only [if_neg hc] at h1
      omega
theorem Ris.ins {out : List Rq} (h : Ris out) (r : Rq) : Ris (insS out r) := by
  unfold insS
  split
  · exact h
  · rename_i hr
    obtain ⟨k, hk⟩ : ∃ k, place r out out.length = k := ⟨_, rfl⟩
    have hlow := place_low (r := r) (out := out) (Nat.le_refl _)
    have hhigh := place_high (r := r) (out := out) (Nat.le_refl _)
    have hkl := place_le r out out.length
    rw [hk] at hlow hhigh hkl ⊢
    have hsplit : Ris (out.take k ++ out.drop k) := by rw [List.take_append_drop]; exact h
    obtain ⟨p1, p2, p3⟩ := List.pairwise_append.1 hsplit
    have hb : ∀ x ∈ out.take k, cmpR x r < 0 := fun x hx => by
      obtain ⟨j, hj, e⟩ := List.mem_iff_getElem.1 hx
      have hjk : j < k := by rw [List.length_take] at hj; omega
      obtain ⟨y, hy, hyc⟩ := hlow (by omega)
      have hyo : y ∈ out := List.mem_of_getElem? hy
      have hyr : cmpR y r < 0 := by
        have h0 : cmpR r y ≠ 0 := fun e => hr (cmpR_zero e ▸ hyo)
        rw [cmpR_anti]; omega
      by_cases hjy : j = k - 1
      · have : out[j]? = some x := by rw [← e, List.getElem_take]; exact List.getElem?_eq_getElem (by omega)
        rw [hjy, hy] at this
        cases this
        exact hyr
      · have hx' : out[j]? = some x := by rw [← e, List.getElem_take]; exact List.getElem?_eq_getElem (by omega)
        obtain ⟨h1, e1⟩ := List.getElem?_eq_some_iff.1 hx'
        obtain ⟨h2, e2⟩ := List.getElem?_eq_some_iff.1 hy
        have := List.pairwise_iff_getElem.1 h j (k - 1) h1 h2 (by omega)
        rw [e1, e2] at this
        exact cmpR_trans this hyr
    have ha : ∀ x ∈ out.drop k, cmpR r x < 0 := fun x hx => by
      obtain ⟨j, hj, e⟩ := List.mem_iff_getElem.1 hx
      rw [List.length_drop] at hj
      obtain ⟨y, hy, hyc⟩ := hhigh (k + j) (by omega) (by omega)
      rw [List.getElem_drop] at e
      rw [List.getElem?_eq_getElem (by omega), e] at hy
      cases hy
      exact hyc
    unfold putS
    refine List.pairwise_append.2 ⟨p1, List.pairwise_cons.2 ⟨ha, p2⟩, fun a ha' b hb' => ?_⟩
    rcases List.mem_cons.1 hb' with rfl | hb'
    · exact hb a ha'
    · exact p3 a ha' b hb'
end Go.Proofs.YtbegjadohamkkaaGreat
/- Words on memory: slices of requests, votes, certificates, parts. -/
namespace Go.Proofs.YtbegjadohamkkaaGreat
open Go.RowKit

def Rq.cells (r : Rq) : List Value := [.int .i64 r.cl, .int .i64 r.tm, .int .i64 r.kd, .int .i64 r.ky, .int .i64 r.vl, .int .i64 r.sg]
def Vt.cells (v : Vt) : List Value := [.int .i64 v.nd, .int .i64 v.sg]
def reqCells (l : List Rq) : List Value := l.flatMap Rq.cells
def voteCells (l : List Vt) : List Value := l.flatMap Vt.cells
/-- A thing of a row. -/
theorem Has.req {w : World} {B : Nat} {A : Option Addr} {l : List Rq} (h : Has w B A (reqCells l)) {k : Nat} (hk : k < l.length) :
    ∃ ad, A = some ad ∧ ad.block < B ∧ w.cell? (ad.add (k * 6)) = some (.int .i64 l[k].cl) ∧ w.cell? ⟨(ad.add (k * 6)).block, (ad.add (k * 6)).off + 1, none⟩ = some (.int .i64 l[k].tm) ∧
      w.cell? ⟨(ad.add (k * 6)).block, (ad.add (k * 6)).off + 2, none⟩ = some (.int .i64 l[k].kd) ∧ w.cell? ⟨(ad.add (k * 6)).block, (ad.add (k * 6)).off + 3, none⟩ = some (.int .i64 l[k].ky) ∧
      w.cell? ⟨(ad.add (k * 6)).block, (ad.add (k * 6)).off + 4, none⟩ = some (.int .i64 l[k].vl) ∧ w.cell? ⟨(ad.add (k * 6)).block, (ad.add (k * 6)).off + 5, none⟩ = some (.int .i64 l[k].sg) := by
  obtain ⟨ad, e, hb, hc⟩ := h.thing (f := Rq.cells) (s := 6) (fun _ => rfl) (by omega) hk
  refine ⟨ad, e, hb, hc 0 _ rfl, ?_, ?_, ?_, ?_, ?_⟩
  · rw [← add_pos _ _ _ (by omega)]; exact hc 1 _ rfl
  · rw [← add_pos _ _ _ (by omega)]; exact hc 2 _ rfl
  · rw [← add_pos _ _ _ (by omega)]; exact hc 3 _ rfl
  · rw [← add_pos _ _ _ (by omega)]; exact hc 4 _ rfl
  · rw [← add_pos _ _ _ (by omega)]; exact hc 5 _ rfl
theorem Has.vote {w : World} {B : Nat} {A : Option Addr} {l : List Vt} (h : Has w B A (voteCells l)) {k : Nat} (hk : k < l.length) :
    ∃ ad, A = some ad ∧ ad.block < B ∧ w.cell? (ad.add (k * 2)) = some (.int .i64 l[k].nd) ∧ w.cell? ⟨(ad.add (k * 2)).block, (ad.add (k * 2)).off + 1, none⟩ = some (.int .i64 l[k].sg) := by
  obtain ⟨ad, e, hb, hc⟩ := h.thing (f := Vt.cells) (s := 2) (fun _ => rfl) (by omega) hk
  refine ⟨ad, e, hb, hc 0 _ rfl, ?_⟩
  rw [← add_pos _ _ _ (by omega)]; exact hc 1 _ rfl
/-- A certificate as it lies: it, and where its lists are. -/
structure Cs where
  c : Ct
  A1 : Option Addr
  c1 : Nat
  A2 : Option Addr
  c2 : Nat
def Cs.cells (x : Cs) : List Value := [.int .i64 x.c.vw, .int .i64 x.c.ins, .int .i64 x.c.sq, .slice x.A1 x.c.bt.length x.c1, .slice x.A2 x.c.vs.length x.c2]
structure Cs.In (w : World) (B : Nat) (x : Cs) : Prop where
  bt : Has w B x.A1 (reqCells x.c.bt)
  vs : Has w B x.A2 (voteCells x.c.vs)
/-- The slice at A reads as certificates. -/
def HasCerts (w : World) (B : Nat) (A : Option Addr) (l : List Ct) : Prop := ∃ L : List Cs, L.map Cs.c = l ∧ Has w B A (L.flatMap Cs.cells) ∧ ∀ x ∈ L, x.In w B
/-- A part as it lies. -/
structure Ps where
  p : Pt
  A1 : Option Addr
  c1 : Nat
  A2 : Option Addr
  c2 : Nat
def Ps.cells (x : Ps) : List Value := [.int .i64 x.p.fr, .slice x.A1 x.p.vs.length x.c1, .slice x.A2 x.p.cs.length x.c2, .int .i64 x.p.sg]
structure Ps.In (w : World) (B : Nat) (x : Ps) : Prop where
  vs : Has w B x.A1 (voteCells x.p.vs)
  cs : HasCerts w B x.A2 x.p.cs
def HasParts (w : World) (B : Nat) (A : Option Addr) (l : List Pt) : Prop := ∃ L : List Ps, L.map Ps.p = l ∧ Has w B A (L.flatMap Ps.cells) ∧ ∀ x ∈ L, x.In w B
/-- What reads in w reads so in w'. -/
def Reads (B B' : Nat) (w w' : World) : Prop := ∀ A xs, Has w B A xs → Has w' B' A xs
section
variable {w w' : World} {B B' : Nat}
theorem Cs.In.reads {x : Cs} (h : x.In w B) (hr : Reads B B' w w') : x.In w' B' := ⟨hr _ _ h.bt, hr _ _ h.vs⟩
theorem HasCerts.reads {A : Option Addr} {l : List Ct} (h : HasCerts w B A l) (hr : Reads B B' w w') : HasCerts w' B' A l := by
  obtain ⟨L, h1, h2, h3⟩ := h
  exact ⟨L, h1, hr _ _ h2, fun x hx => (h3 x hx).reads hr⟩
theorem Ps.In.reads {x : Ps} (h : x.In w B) (hr : Reads B B' w w') : x.In w' B' := ⟨hr _ _ h.vs, h.cs.reads hr⟩
theorem HasParts.reads {A : Option Addr} {l : List Pt} (h : HasParts w B A l) (hr : Reads B B' w w') : HasParts w' B' A l := by
  obtain ⟨L, h1, h2, h3⟩ := h
  exact ⟨L, h1, hr _ _ h2, fun x hx => (h3 x hx).reads hr⟩
theorem Reads.below (hb : Below B' w w') (hB : B ≤ B') : Reads B B w w' := fun _ _ h => h.below hb hB
theorem Reads.kept {g : Nat} {t : TypeId} (hk : Kept B g t w w') (hg : B ≤ g) : Reads B B w w' := fun _ _ h => hk.has hg h
theorem Reads.more (hB : B ≤ B') : Reads B B' w w := fun _ _ h => h.more hB
/-- A certificate of a row. -/
theorem HasCerts.at {A : Option Addr} {l : List Ct} (h : HasCerts w B A l) {k : Nat} (hk : k < l.length) :
    ∃ (ad : Addr) (x : Cs), A = some ad ∧ ad.block < B ∧ x.c = l[k] ∧ x.In w B ∧ w.cell? (ad.add (k * 5)) = some (.int .i64 x.c.vw) ∧ w.cell? ⟨(ad.add (k * 5)).block, (ad.add (k * 5)).off + 1, none⟩ = some (.int .i64 x.c.ins) ∧
      w.cell? ⟨(ad.add (k * 5)).block, (ad.add (k * 5)).off + 2, none⟩ = some (.int .i64 x.c.sq) ∧ w.cell? ⟨(ad.add (k * 5)).block, (ad.add (k * 5)).off + 3, none⟩ = some (.slice x.A1 x.c.bt.length x.c1) ∧
      w.cell? ⟨(ad.add (k * 5)).block, (ad.add (k * 5)).off + 4, none⟩ = some (.slice x.A2 x.c.vs.length x.c2) := by
  obtain ⟨L, rfl, h2, h3⟩ := h
  have hk' : k < L.length := by simpa using hk
  obtain ⟨ad, e, hb, hc⟩ := h2.thing (f := Cs.cells) (s := 5) (fun _ => rfl) (by omega) hk'
  refine ⟨ad, L[k], e, hb, by simp, h3 _ (List.getElem_mem hk'), hc 0 _ rfl, ?_, ?_, ?_, ?_⟩
  · rw [← add_pos _ _ _ (by omega)]; exact hc 1 _ rfl
  · rw [← add_pos _ _ _ (by omega)]; exact hc 2 _ rfl
  · rw [← add_pos _ _ _ (by omega)]; exact hc 3 _ rfl
  · rw [← add_pos _ _ _ (by omega)]; exact hc 4 _ rfl
theorem HasParts.at {A : Option Addr} {l : List Pt} (h : HasParts w B A l) {k : Nat} (hk : k < l.length) :
    ∃ (ad : Addr) (x : Ps), A = some ad ∧ ad.block < B ∧ x.p = l[k] ∧ x.In w B ∧ w.cell? (ad.add (k * 4)) = some (.int .i64 x.p.fr) ∧ w.cell? ⟨(ad.add (k * 4)).block, (ad.add (k * 4)).off + 1, none⟩ = some (.slice x.A1 x.p.vs.length x.c1) ∧
      w.cell? ⟨(ad.add (k * 4)).block, (ad.add (k * 4)).off + 2, none⟩ = some (.slice x.A2 x.p.cs.length x.c2) ∧ w.cell? ⟨(ad.add (k * 4)).block, (ad.add (k * 4)).off + 3, none⟩ = some (.int .i64 x.p.sg) := by
  obtain ⟨L, rfl, h2, h3⟩ := h
  have hk' : k < L.length := by simpa using hk
  obtain ⟨ad, e, hb, hc⟩ := h2.thing (f := Ps.cells) (s := 4) (fun _ => rfl) (by omega) hk'
  refine ⟨ad, L[k], e, hb, by simp, h3 _ (List.getElem_mem hk'), hc 0 _ rfl, ?_, ?_, ?_⟩
  · rw [← add_pos _ _ _ (by omega)]; exact hc 1 _ rfl
  · rw [← add_pos _ _ _ (by omega)]; exact hc 2 _ rfl
  · rw [← add_pos _ _ _ (by omega)]; exact hc 3 _ rfl
end
end Go.Proofs.YtbegjadohamkkaaGreat
/- Arguments that came in: slices of requests, votes, certificates, parts, opened to cells. -/
namespace Go.Proofs.YtbegjadohamkkaaGreat
open Go.RowKit Go.ChangeShapes Go.WideShapes Go.Deep

structure Rq.Fits (r : Rq) : Prop where
  cl : fit r.cl
  tm : fit r.tm
  kd : fit r.kd
  ky : fit r.ky
  vl : fit r.vl
  sg : fit r.sg
structure Vt.Fits (v : Vt) : Prop where
  nd : fit v.nd
  sg : fit v.sg
/-- A slice of requests that came in. -/
structure IsReqs (w : World) (A : Option Addr) (l : List Rq) (c : Nat) : Prop where
  le : l.length ≤ c
  most : c ≤ maxLen
  nil : A = none → c = 0
  has : Has w w.heap.size A (reqCells l)
  fits : ∀ x ∈ l, x.Fits
structure IsVotes (w : World) (A : Option Addr) (l : List Vt) (c : Nat) : Prop where
  le : l.length ≤ c
  most : c ≤ maxLen
  nil : A = none → c = 0
  has : Has w w.heap.size A (voteCells l)
  fits : ∀ x ∈ l, x.Fits
/-- A certificate whose lists came in. -/
structure Cs.Came (w : World) (x : Cs) : Prop where
  vw : fit x.c.vw
  ins : fit x.c.ins
  sq : fit x.c.sq
  bt : IsReqs w x.A1 x.c.bt x.c1
  vs : IsVotes w x.A2 x.c.vs x.c2
structure IsCerts (w : World) (A : Option Addr) (l : List Ct) (c : Nat) : Prop where
  le : l.length ≤ c
  most : c ≤ maxLen
  nil : A = none → c = 0
  lies : ∃ L : List Cs, L.map Cs.c = l ∧ Has w w.heap.size A (L.flatMap Cs.cells) ∧ ∀ x ∈ L, x.Came w
structure Ps.Came (w : World) (x : Ps) : Prop where
  fr : fit x.p.fr
  sg : fit x.p.sg
  vs : IsVotes w x.A1 x.p.vs x.c1
  cs : IsCerts w x.A2 x.p.cs x.c2
structure IsParts (w : World) (A : Option Addr) (l : List Pt) (c : Nat) : Prop where
  le : l.length ≤ c
  most : c ≤ maxLen
  nil : A = none → c = 0
  lies : ∃ L : List Ps, L.map Ps.p = l ∧ Has w w.heap.size A (L.flatMap Ps.cells) ∧ ∀ x ∈ L, x.Came w
theorem IsCerts.has {w : World} {A : Option Addr} {l : List Ct} {c : Nat} (h : IsCerts w A l c) : HasCerts w w.heap.size A l := by
  obtain ⟨L, h1, h2, h3⟩ := h.lies
  exact ⟨L, h1, h2, fun x hx => ⟨(h3 x hx).bt.has, (h3 x hx).vs.has⟩⟩
theorem IsParts.has {w : World} {A : Option Addr} {l : List Pt} {c : Nat} (h : IsParts w A l c) : HasParts w w.heap.size A l := by
  obtain ⟨L, h1, h2, h3⟩ := h.lies
  exact ⟨L, h1, h2, fun x hx => ⟨(h3 x hx).vs.has, (h3 x hx).cs.has⟩⟩

section
variable {H : Type} {enc : TypeId × Value → H} {P : Program} {w : World} {base : Nat} {held : Bool}
end
section
variable {H : Type} {enc : TypeId × Value → H} {w : World} {base : Nat} {held : Bool}
theorem trod_req {n : Nat} {cs : List Value} {z : DataW H × List MemPlace} (hl : cs.length = 6) (h : DataW.trod enc Tryz.prog w base (fun _ => true) held n 69 cs = some z) : ∃ r : Rq, cs = r.cells ∧ r.Fits := by
  match cs, hl with
  | [c0, c1, c2, c3, c4, c5], _ =>
    have k3 : Tryz.prog.cellsOf 3 = 1 := by kernel_rfl
    have k29 : Tryz.prog.cellsOf 67 = 3 := by kernel_rfl
    obtain ⟨xs, m, _, _, _, hxl, hf⟩ := DataW.trod_struct Tryz.underlying69 h
    have hxl : xs.length = 4 := hxl
    obtain ⟨y0, e0⟩ := at_field hf 0 3 0 1 rfl k3 (by omega)
    obtain ⟨y1, e1⟩ := at_field hf 1 3 1 1 rfl k3 (by omega)
    obtain ⟨y2, e2⟩ := at_field hf 2 67 2 3 rfl k29 (by omega)
    obtain ⟨y3, e3⟩ := at_field hf 3 3 5 1 rfl k3 (by omega)
    obtain ⟨a0, h0, f0⟩ := trod_i64 e0
    obtain ⟨a1, h1, f1⟩ := trod_i64 e1
    obtain ⟨a3, h3, f3⟩ := trod_i64 e3
    obtain ⟨xs2, m2, _, _, _, hxl2, hf2⟩ := DataW.trod_struct Tryz.underlying67 e2
    have hxl2 : xs2.length = 3 := hxl2
    obtain ⟨y4, e4⟩ := at_field hf2 0 3 0 1 rfl k3 (by omega)
    obtain ⟨y5, e5⟩ := at_field hf2 1 3 1 1 rfl k3 (by omega)
    obtain ⟨y6, e6⟩ := at_field hf2 2 3 2 1 rfl k3 (by omega)
    obtain ⟨a4, h4, f4⟩ := trod_i64 e4
    obtain ⟨a5, h5, f5⟩ := trod_i64 e5
    obtain ⟨a6, h6, f6⟩ := trod_i64 e6
    simp only [List.drop_zero, List.drop_succ_cons, List.take_succ_cons, List.take_zero] at h0 h1 h3 h4 h5 h6
    cases h0; cases h1; cases h3; cases h4; cases h5; cases h6
    exact ⟨⟨a0, a1, a4, a5, a6, a3⟩, rfl, ⟨f0, f1, f4, f5, f6, f3⟩⟩
theorem trod_vote {n : Nat} {cs : List Value} {z : DataW H × List MemPlace} (hl : cs.length = 2) (h : DataW.trod enc Tryz.prog w base (fun _ => true) held n 65 cs = some z) : ∃ r : Vt, cs = r.cells ∧ r.Fits := by
  match cs, hl with
  | [c0, c1], _ =>
    have k3 : Tryz.prog.cellsOf 3 = 1 := by kernel_rfl
    obtain ⟨xs, m, _, _, _, hxl, hf⟩ := DataW.trod_struct Tryz.underlying65 h
    have hxl : xs.length = 2 := hxl
    obtain ⟨y0, e0⟩ := at_field hf 0 3 0 1 rfl k3 (by omega)
    obtain ⟨y1, e1⟩ := at_field hf 1 3 1 1 rfl k3 (by omega)
    obtain ⟨a0, h0, f0⟩ := trod_i64 e0
    obtain ⟨a1, h1, f1⟩ := trod_i64 e1
    simp only [List.drop_zero, List.drop_succ_cons, List.take_succ_cons, List.take_zero] at h0 h1
    cases h0; cases h1
    exact ⟨⟨a0, a1⟩, rfl, ⟨f0, f1⟩⟩
theorem open_reqs {n : Nat} {A : Option Addr} {len cap : Nat} {y : DataW H × List MemPlace} (h : DataW.trod enc Tryz.prog w base (fun _ => true) held n 22 [.slice A len cap] = some y) :
    ∃ l : List Rq, l.length = len ∧ IsReqs w A l cap := by
  obtain ⟨l, h1, h2, h3, h4, h5, h6⟩ := open_things (f := Rq.cells) (good := Rq.Fits) (s := 6) (fun _ => rfl) (by omega) Tryz.underlying22 (by kernel_rfl) (fun n cs z hl hz => trod_req hl hz) h
  exact ⟨l, h1, ⟨by omega, h3, h4, h5, h6⟩⟩
theorem open_votes {n : Nat} {A : Option Addr} {len cap : Nat} {y : DataW H × List MemPlace} (h : DataW.trod enc Tryz.prog w base (fun _ => true) held n 23 [.slice A len cap] = some y) :
    ∃ l : List Vt, l.length = len ∧ IsVotes w A l cap := by
  obtain ⟨l, h1, h2, h3, h4, h5, h6⟩ := open_things (f := Vt.cells) (good := Vt.Fits) (s := 2) (fun _ => rfl) (by omega) Tryz.underlying23 (by kernel_rfl) (fun n cs z hl hz => trod_vote hl hz) h
  exact ⟨l, h1, ⟨by omega, h3, h4, h5, h6⟩⟩
theorem trod_cert {n : Nat} {cs : List Value} {z : DataW H × List MemPlace} (hl : cs.length = 5) (h : DataW.trod enc Tryz.prog w base (fun _ => true) held n 25 cs = some z) : ∃ x : Cs, cs = x.cells ∧ x.Came w := by
  match cs, hl with
  | [c0, c1, c2, c3, c4], _ =>
    have k3 : Tryz.prog.cellsOf 3 = 1 := by kernel_rfl
    have kr : Tryz.prog.cellsOf 22 = 1 := by kernel_rfl
    have kv : Tryz.prog.cellsOf 23 = 1 := by kernel_rfl
    obtain ⟨xs, m, _, _, _, hxl, hf⟩ := DataW.trod_struct Tryz.underlying25 h
    have hxl : xs.length = 5 := hxl
    obtain ⟨y0, e0⟩ := at_field hf 0 3 0 1 rfl k3 (by omega)
    obtain ⟨y1, e1⟩ := at_field hf 1 3 1 1 rfl k3 (by omega)
    obtain ⟨y2, e2⟩ := at_field hf 2 3 2 1 rfl k3 (by omega)
    obtain ⟨y3, e3⟩ := at_field hf 3 22 3 1 rfl kr (by omega)
    obtain ⟨y4, e4⟩ := at_field hf 4 23 4 1 rfl kv (by omega)
    simp only [List.drop_zero, List.drop_succ_cons, List.take_succ_cons, List.take_zero] at e0 e1 e2 e3 e4
    obtain ⟨a0, h0, f0⟩ := trod_i64 e0
    obtain ⟨a1, h1, f1⟩ := trod_i64 e1
    obtain ⟨a2, h2, f2⟩ := trod_i64 e2
    obtain ⟨A3, l3, d3, h3⟩ := trod_is_slice Tryz.underlying22 e3
    obtain ⟨A4, l4, d4, h4⟩ := trod_is_slice Tryz.underlying23 e4
    cases h0; cases h1; cases h2; cases h3; cases h4
    obtain ⟨b, rfl, hb⟩ := open_reqs e3
    obtain ⟨v, rfl, hv⟩ := open_votes e4
    exact ⟨⟨⟨a0, a1, a2, b, v⟩, A3, d3, A4, d4⟩, rfl, ⟨f0, f1, f2, hb, hv⟩⟩
theorem open_certs {n : Nat} {A : Option Addr} {len cap : Nat} {y : DataW H × List MemPlace} (h : DataW.trod enc Tryz.prog w base (fun _ => true) held n 35 [.slice A len cap] = some y) :
    ∃ l : List Ct, l.length = len ∧ IsCerts w A l cap := by
  obtain ⟨L, h1, h2, h3, h4, h5, h6⟩ := open_things (f := Cs.cells) (good := Cs.Came w) (s := 5) (fun _ => rfl) (by omega) Tryz.underlying35 (by kernel_rfl) (fun n cs z hl hz => trod_cert hl hz) h
  exact ⟨L.map Cs.c, by simpa using h1, ⟨by simp; omega, h3, h4, L, rfl, h5, h6⟩⟩
theorem trod_part {n : Nat} {cs : List Value} {z : DataW H × List MemPlace} (hl : cs.length = 4) (h : DataW.trod enc Tryz.prog w base (fun _ => true) held n 73 cs = some z) : ∃ x : Ps, cs = x.cells ∧ x.Came w := by
  match cs, hl with
  | [c0, c1, c2, c3], _ =>
    have k3 : Tryz.prog.cellsOf 3 = 1 := by kernel_rfl
    have kr : Tryz.prog.cellsOf 23 = 1 := by kernel_rfl
    have kv : Tryz.prog.cellsOf 35 = 1 := by kernel_rfl
    obtain ⟨xs, m, _, _, _, hxl, hf⟩ := DataW.trod_struct Tryz.underlying73 h
    have hxl : xs.length = 4 := hxl
    obtain ⟨y0, e0⟩ := at_field hf 0 3 0 1 rfl k3 (by omega)
    obtain ⟨y1, e1⟩ := at_field hf 1 23 1 1 rfl kr (by omega)
    obtain ⟨y2, e2⟩ := at_field hf 2 35 2 1 rfl kv (by omega)
    obtain ⟨y3, e3⟩ := at_field hf 3 3 3 1 rfl k3 (by omega)
    simp only [List.drop_zero, List.drop_succ_cons, List.take_succ_cons, List.take_zero] at e0 e1 e2 e3
    obtain ⟨a0, h0, f0⟩ := trod_i64 e0
    obtain ⟨a3, h3, f3⟩ := trod_i64 e3
    obtain ⟨A1, l1, d1, h1⟩ := trod_is_slice Tryz.underlying23 e1
    obtain ⟨A2, l2, d2, h2⟩ := trod_is_slice Tryz.underlying35 e2
    cases h0; cases h1; cases h2; cases h3
    obtain ⟨v, rfl, hv⟩ := open_votes e1
    obtain ⟨c, rfl, hc⟩ := open_certs e2
    exact ⟨⟨⟨a0, v, c, a3⟩, A1, d1, A2, d2⟩, rfl, ⟨f0, f3, hv, hc⟩⟩
theorem open_parts {n : Nat} {A : Option Addr} {len cap : Nat} {y : DataW H × List MemPlace} (h : DataW.trod enc Tryz.prog w base (fun _ => true) held n 36 [.slice A len cap] = some y) :
    ∃ l : List Pt, l.length = len ∧ IsParts w A l cap := by
  obtain ⟨L, h1, h2, h3, h4, h5, h6⟩ := open_things (f := Ps.cells) (good := Ps.Came w) (s := 4) (fun _ => rfl) (by omega) Tryz.underlying36 (by kernel_rfl) (fun n cs z hl hz => trod_part hl hz) h
  exact ⟨L.map Ps.p, by simpa using h1, ⟨by simp; omega, h3, h4, L, rfl, h5, h6⟩⟩
end
end Go.Proofs.YtbegjadohamkkaaGreat
/- Slices of votes: words of layer 4. -/
namespace Go.Proofs.YtbegjadohamkkaaGreat
open Go.RowKit

/-- A vote of a row. -/
theorem vote_at {w : World} {B : Nat} {A : Option Addr} {l : List Vt} (h : Has w B A (voteCells l)) {k : Nat} (hk : k < l.length) :
    ∃ ad, A = some ad ∧ ad.block < B ∧ w.cell? (ad.add (k * 2)) = some (.int .i64 l[k].nd) ∧ w.cell? ⟨(ad.add (k * 2)).block, (ad.add (k * 2)).off + 1, none⟩ = some (.int .i64 l[k].sg) := h.vote hk
end Go.Proofs.YtbegjadohamkkaaGreat
/- The document's own numbers of nodes, its primary, its rising rows; the law's own row of votes. -/
namespace Go.Proofs.YtbegjadohamkkaaGreat
open Go.RowKit

def nodesS (f : Int) : Int := if 1 ≤ f ∧ f ≤ 4 then 3 * f + 1 else 0
def quorumS (f : Int) : Int := if 1 ≤ f ∧ f ≤ 4 then 2 * f + 1 else 0
def primaryS (f v i : Int) : Int := if (1 ≤ f ∧ f ≤ 4) ∧ 0 ≤ v ∧ v ≤ 12 ∧ 0 ≤ i ∧ i ≤ f then (v + i) % (3 * f + 1) else -1
theorem nodesS_in {f : Int} (h1 : 1 ≤ f) (h2 : f ≤ 4) : nodesS f = 3 * f + 1 := if_pos ⟨h1, h2⟩
theorem quorumS_in {f : Int} (h1 : 1 ≤ f) (h2 : f ≤ 4) : quorumS f = 2 * f + 1 := if_pos ⟨h1, h2⟩
theorem nodesS_out {f : Int} (h : f < 1 ∨ 4 < f) : nodesS f = 0 := if_neg (by omega)
theorem quorumS_out {f : Int} (h : f < 1 ∨ 4 < f) : quorumS f = 0 := if_neg (by omega)
theorem primaryS_in {f v i : Int} (h1 : 1 ≤ f) (h2 : f ≤ 4) (h3 : 0 ≤ v) (h4 : v ≤ 12) (h5 : 0 ≤ i) (h6 : i ≤ f) : primaryS f v i = (v + i) % (3 * f + 1) := if_pos ⟨⟨h1, h2⟩, h3, h4, h5, h6⟩
theorem primaryS_out {f v i : Int} (h : f < 1 ∨ 4 < f ∨ v < 0 ∨ 12 < v ∨ i < 0 ∨ f < i) : primaryS f v i = -1 := if_neg (by omega)

theorem rnodes_any (f : Int) (w : World) : Calls Tryz.prog 45 #[.int .i64 f] w fun e w' => e = .returned (.int .i64 (nodesS f)) ∧ w = w' := by
  by_cases h1 : f < 1
  · rw [nodesS_out (Or.inl h1)]
    go_enter Tryz.func45, Tryz.ntmps45
    go_wp2
    go_ret
    exact ⟨rfl, rfl⟩
  · have h1' : 1 ≤ f := by omega
    by_cases h2 : 4 < f
    · rw [nodesS_out (Or.inr h2)]
      go_enter Tryz.func45, Tryz.ntmps45
      go_wp2
      go_ret
      exact ⟨rfl, rfl⟩
    · have h2' : f ≤ 4 := by omega
      rw [nodesS_in h1' h2']
      go_enter Tryz.func45, Tryz.ntmps45
      go_wp2
      go_ret
      exact ⟨rfl, rfl⟩
theorem rquorum_any (f : Int) (w : World) : Calls Tryz.prog 48 #[.int .i64 f] w fun e w' => e = .returned (.int .i64 (quorumS f)) ∧ w = w' := by
  by_cases h1 : f < 1
  · rw [quorumS_out (Or.inl h1)]
    go_enter Tryz.func48, Tryz.ntmps48
    go_wp2
    go_ret
    exact ⟨rfl, rfl⟩
  · have h1' : 1 ≤ f := by omega
    by_cases h2 : 4 < f
    · rw [quorumS_out (Or.inr h2)]
      go_enter Tryz.func48, Tryz.ntmps48
      go_wp2
      go_ret
      exact ⟨rfl, rfl⟩
    · have h2' : f ≤ 4 := by omega
      rw [quorumS_in h1' h2']
      go_enter Tryz.func48, Tryz.ntmps48
      go_wp2
      go_ret
      exact ⟨rfl, rfl⟩
/-- The cases of a primary. -/
theorem primary_cases (f v i : Int) : (f < 1 ∨ 4 < f) ∨ ((1 ≤ f ∧ f ≤ 4) ∧ (v < 0 ∨ (0 ≤ v ∧ (12 < v ∨ (v ≤ 12 ∧ (i < 0 ∨ (0 ≤ i ∧ (f < i ∨ i ≤ f)))))))) := by omega
set_option maxHeartbeats 1000000 in
theorem rprimary_any (f v i : Int) (w : World) : Calls Tryz.prog 47 #[.int .i64 f, .int .i64 v, .int .i64 i] w fun e w' => e = .returned (.int .i64 (primaryS f v i)) ∧ w = w' := by
  rcases primary_cases f v i with h | ⟨⟨h1, h2⟩, h | ⟨h3, h | ⟨h4, h | ⟨h5, h | h6⟩⟩⟩⟩
  · rw [primaryS_out (by omega)]
    have HN := Lib.hid (rnodes_any f)
    rw [nodesS_out h] at HN
    clear h
    go_enter Tryz.func47, Tryz.ntmps47
    go_wp2_with fail
    refine (HN.out _).mono ?_
    rintro e w' ⟨rfl, rfl⟩
    go_wp2_with fail
    go_ret
    exact ⟨rfl, rfl⟩
  all_goals
    have HN := Lib.hid (rnodes_any f)
    rw [nodesS_in h1 h2] at HN
    have hp : ¬ (3 * f + 1 = 0) := by omega
  · rw [primaryS_out (by omega)]
    go_enter Tryz.func47, Tryz.ntmps47
    go_wp2_with fail
    refine (HN.out _).mono ?_
    rintro e w' ⟨rfl, rfl⟩
    go_wp2_with fail
    go_ret
    exact ⟨rfl, rfl⟩
  · rw [primaryS_out (by omega)]
    go_enter Tryz.func47, Tryz.ntmps47
    go_wp2_with fail
    refine (HN.out _).mono ?_
    rintro e w' ⟨rfl, rfl⟩
    go_wp2_with fail
    go_ret
    exact ⟨rfl, rfl⟩
  · rw [primaryS_out (by omega)]
    go_enter Tryz.func47, Tryz.ntmps47
    go_wp2_with fail
    refine (HN.out _).mono ?_
    rintro e w' ⟨rfl, rfl⟩
    go_wp2_with fail
    go_ret
    exact ⟨rfl, rfl⟩
  · rw [primaryS_out (by omega)]
    go_enter Tryz.func47, Tryz.ntmps47
    go_wp2_with fail
    refine (HN.out _).mono ?_
    rintro e w' ⟨rfl, rfl⟩
    go_wp2_with fail
    go_ret
    exact ⟨rfl, rfl⟩
  · rw [primaryS_in h1 h2 h3 h4 h5 h6]
    have t0 : (3 * f + 1 == 0) = false := by rw [beq_eq_false_iff_ne]; exact hp
    have t1 : decide (v < 0) = false := decide_eq_false (by omega)
    have t2 : decide (12 < v) = false := decide_eq_false (by omega)
    have t3 : decide (i < 0) = false := decide_eq_false (by omega)
    have t4 : decide (f < i) = false := decide_eq_false (by omega)
    go_enter Tryz.func47, Tryz.ntmps47
    go_wp2_with fail
    refine (HN.out _).mono ?_
    rintro e w' ⟨rfl, rfl⟩
    go_wp2_with fail
    refine (HN.out _).mono ?_
    rintro e w' ⟨rfl, rfl⟩
    go_wp2_with fail
    go_ret
    exact ⟨rfl, rfl⟩
end Go.Proofs.YtbegjadohamkkaaGreat
/- The document's own rising rows. -/
namespace Go.Proofs.YtbegjadohamkkaaGreat
open Go.RowKit

/-- Nodes that rise above a last one, below N. -/
def risesF (N : Int) : Int → List Vt → Bool
  | _, [] => true
  | last, v :: l => decide (last < v.nd ∧ v.nd < N) && risesF N v.nd l
def risingS (l : List Vt) (f : Int) : Bool := decide ((1 ≤ f ∧ f ≤ 4) ∧ (l.length : Int) = 2 * f + 1) && risesF (3 * f + 1) (-1) l
theorem rises_no {N last : Int} {v : Vt} {l r : List Vt} {k : Nat} (hd : l.drop k = v :: r) (h : ¬ (last < v.nd ∧ v.nd < N)) : risesF N last (l.drop k) = false := by
  rw [hd]; unfold risesF; rw [decide_eq_false h]; rfl
theorem rises_yes {N last : Int} {v : Vt} {l r : List Vt} {k : Nat} (hd : l.drop k = v :: r) (hr : l.drop (k + 1) = r) (h : last < v.nd ∧ v.nd < N) : risesF N last (l.drop k) = risesF N v.nd (l.drop (k + 1)) := by
  rw [hd, hr]
  show (decide (last < v.nd ∧ v.nd < N) && risesF N v.nd r) = _
  rw [decide_eq_true h]; rfl
theorem rising_out {l : List Vt} {f : Int} (h : f < 1 ∨ 4 < f ∨ (l.length : Int) ≠ 2 * f + 1) : risingS l f = false := by
  unfold risingS; rw [decide_eq_false (by omega)]; rfl
theorem rising_in {l : List Vt} {f : Int} (h1 : 1 ≤ f) (h2 : f ≤ 4) (h : (l.length : Int) = 2 * f + 1) : risingS l f = risesF (3 * f + 1) (-1) l := by
  unfold risingS; rw [decide_eq_true ⟨⟨h1, h2⟩, h⟩]; rfl

set_option maxHeartbeats 2000000 in
theorem rrising_any {w : World} {A : Option Addr} {n c B : Nat} {l : List Vt} (hh : Has w B A (voteCells l)) (hn : l.length = n) (hm : n ≤ maxLen) (f : Int) :
    Calls Tryz.prog 104 #[.slice A n c, .int .i64 f] w fun e w' => e = .returned (.bool (risingS l f)) ∧ ∃ m, w' = w.drewN m := by
  have HM := Lib.hid hm
  clear hm
  by_cases h1 : f < 1 ∨ 4 < f
  · rw [rising_out (by omega)]
    have HN := Lib.hid (rnodes_any f)
    rw [nodesS_out h1] at HN
    clear h1 hn
    go_enter Tryz.func104, Tryz.ntmps104
    go_wp2_with fail
    refine (HN.out _).mono ?_
    rintro e w' ⟨rfl, rfl⟩
    go_wp2_with fail
    go_ret
    exact ⟨rfl, 0, rfl⟩
  · have h2 : 1 ≤ f := by omega
    have h3 : f ≤ 4 := by omega
    have HN := Lib.hid (rnodes_any f)
    have HQ := Lib.hid (rquorum_any f)
    rw [nodesS_in h2 h3] at HN
    rw [quorumS_in h2 h3] at HQ
    have hp : ¬ (3 * f + 1 = 0) := by omega
    clear h1
    by_cases hl : (n : Int) = 2 * f + 1
    · have HR := Lib.hid (rising_in (l := l) h2 h3 (by rw [hn]; exact hl))
      have HH := Lib.hid hh
      have HL := Lib.hid hn
      have hl9 : n ≤ 9 := by omega
      clear hh hn
      go_enter Tryz.func104, Tryz.ntmps104
      go_wp2_with fail
      refine (HN.out _).mono ?_
      rintro e w' ⟨rfl, rfl⟩
      go_wp2_with fail
      refine (HQ.out _).mono ?_
      rintro e w' ⟨rfl, rfl⟩
      go_wp2_with fail
      go_loopw [5] (fun x wr => ∃ (k m : Nat) (last : Int), x = .int .i64 k ∧ k ≤ n ∧ Hid (wr = w.drewN m) ∧ Hid (risingS l f = risesF (3 * f + 1) last (l.drop k)) ∧ Hid ((k = 0 ∧ last = -1) ∨ (0 < k ∧ 0 ≤ last ∧ ∃ v, l[k - 1]? = some v ∧ v.nd = last))) (fun x _ => n - (intOf x).toNat)
      case atStart => exact ⟨0, 0, -1, rfl, Nat.zero_le _, rfl, HR.out, Or.inl ⟨rfl, rfl⟩⟩
      case round =>
        obtain ⟨k, m, last, rfl, hk, HW, HS, HP⟩ := hrel
        by_cases hlt : k < n
        · have hkl : k < l.length := by rw [HL.out]; exact hlt
          have hHr : Has wr B A (voteCells l) := by rw [HW.out]; exact HH.out.drewN m
          obtain ⟨ad, rfl, _, d0, d1⟩ := vote_at hHr hkl
          obtain ⟨v, hv⟩ : ∃ v, l[k] = v := ⟨_, rfl⟩
          rw [hv] at d0
          have HDr := Lib.hid (show l.drop k = v :: l.drop (k + 1) by rw [← hv]; exact List.drop_eq_getElem_cons hkl)
          have HNq := Lib.hid (fun q => (HN.out (wr.drewN q)).mono (R' := fun e w' => e = .returned (.int .i64 (3 * f + 1)) ∧ w' = wr.drewN q) (fun e w' he => ⟨he.1, he.2.symm⟩))
          have HV := Lib.hid (show l[k]? = some v by rw [List.getElem?_eq_getElem hkl, hv])
          clear hv d1 hkl
          by_cases c1 : v.nd < 0
          · have HF := Lib.hid (show risingS l f = false by rw [HS.out]; exact rises_no HDr.out (by rcases HP.out with ⟨_, h⟩ | ⟨_, h, _⟩ <;> omega))
            clear hHr
            go_wp2_with fail
            go_quiet ((go_at_call 45; exact Calls.quiet_of_same (HNq.out _)))
            go_wp2_with fail
            go_ret
            rw [HF.out]
            exact ⟨rfl, _, by rw [HW.out, World.drewN_drewN]⟩
          · have t1 : decide (v.nd < 0) = false := decide_eq_false c1
            by_cases c2 : 3 * f + 1 ≤ v.nd
            · have HF := Lib.hid (show risingS l f = false by rw [HS.out]; exact rises_no HDr.out (by omega))
              clear hHr c1
              go_wp2_with fail
              go_quiet ((go_at_call 45; exact Calls.quiet_of_same (HNq.out _)))
              go_wp2_with fail
              go_ret
              rw [HF.out]
              exact ⟨rfl, _, by rw [HW.out, World.drewN_drewN]⟩
            · have t2 : decide (3 * f + 1 ≤ v.nd) = false := decide_eq_false c2
              by_cases c3 : k = 0
              · have tk : decide (0 < k) = false := decide_eq_false (by omega)
                have HX := Lib.hid (show risingS l f = risesF (3 * f + 1) v.nd (l.drop (k + 1)) by rw [HS.out]; exact rises_yes HDr.out rfl (by rcases HP.out with ⟨_, h⟩ | ⟨h, _⟩ <;> omega))
                have HP2 := Lib.hid (show (0 : Int) ≤ v.nd by omega)
                clear hHr c1 c2 c3
                go_wp2_with fail
                go_quiet ((go_at_call 45; exact Calls.quiet_of_same (HNq.out _)))
                go_wp2_with fail
                go_roundw
                case rel => exact ⟨k + 1, m + nq, v.nd, by go_num, by omega, (show _ = _ by rw [HW.out, World.drewN_drewN]), HX.out, Or.inr ⟨by omega, HP2.out, v, HV.out, rfl⟩⟩
                case measure => simp [intOf]; omega
              · have hk0 : 0 < k := by omega
                obtain ⟨pv, hpv, hpl⟩ : ∃ v, l[k - 1]? = some v ∧ v.nd = last := by
                  rcases HP.out with ⟨h, _⟩ | ⟨_, _, h⟩
                  · omega
                  · exact h
                have hlast : 0 ≤ last := by rcases HP.out with ⟨h, _⟩ | ⟨_, h, _⟩ <;> omega
                obtain ⟨m1, hm1⟩ : ∃ m1, k - 1 = m1 := ⟨_, rfl⟩
                rw [hm1] at hpv
                have hm2 : (k : Int) - 1 = (m1 : Int) := by omega
                have hm3 : m1 < n := by omega
                obtain ⟨ad', he, _, p0, _⟩ := vote_at hHr (k := m1) (by rw [HL.out]; exact hm3)
                cases he
                rw [show l[m1]'(by rw [HL.out]; exact hm3) = pv from (List.getElem?_eq_some_iff.1 hpv).2, hpl] at p0
                have tk : decide (0 < (k : Int)) = true := decide_eq_true (by omega)
                clear hpl hpv hm1
                by_cases c4 : v.nd ≤ last
                · have HF := Lib.hid (show risingS l f = false by rw [HS.out]; exact rises_no HDr.out (by omega))
                  clear hHr c1 c2 c3
                  go_wp2_with fail
                  go_quiet ((go_at_call 45; exact Calls.quiet_of_same (HNq.out _)))
                  go_wp2_with fail
                  go_ret
                  rw [HF.out]
                  exact ⟨rfl, _, by rw [HW.out, World.drewN_drewN]⟩
                · have HX := Lib.hid (show risingS l f = risesF (3 * f + 1) v.nd (l.drop (k + 1)) by rw [HS.out]; exact rises_yes HDr.out rfl (by omega))
                  have HP2 := Lib.hid (show (0 : Int) ≤ v.nd by omega)
                  have t4 : decide (v.nd ≤ last) = false := decide_eq_false c4
                  clear hHr c1 c2 c3 c4
                  go_wp2_with fail
                  go_quiet ((go_at_call 45; exact Calls.quiet_of_same (HNq.out _)))
                  go_wp2_with fail
                  go_roundw
                  case rel => exact ⟨k + 1, m + nq, v.nd, by go_num, by omega, (show _ = _ by rw [HW.out, World.drewN_drewN]), HX.out, Or.inr ⟨by omega, HP2.out, v, HV.out, rfl⟩⟩
                  case measure => simp [intOf]; omega
        · have HF := Lib.hid (show risingS l f = true by rw [HS.out, List.drop_eq_nil_of_le (by rw [HL.out]; omega)]; rfl)
          go_wp2_with fail
          go_ret
          rw [HF.out]
          exact ⟨rfl, m, HW.out⟩
    · rw [rising_out (by rw [hn]; omega)]
      have t0 : ((n : Int) != 2 * f + 1) = true := by simpa using hl
      clear hn hh hl
      go_enter Tryz.func104, Tryz.ntmps104
      go_wp2_with fail
      refine (HN.out _).mono ?_
      rintro e w' ⟨rfl, rfl⟩
      go_wp2_with fail
      refine (HQ.out _).mono ?_
      rintro e w' ⟨rfl, rfl⟩
      go_wp2_with fail
      go_ret
      exact ⟨rfl, 0, rfl⟩
end Go.Proofs.YtbegjadohamkkaaGreat
/- Messages: their fields as numbers, when they are of form. Nothing of the program. -/
namespace Go.Proofs.YtbegjadohamkkaaGreat

structure Mg where
  (kd fr vw ins sq rs : Int)
  bt : List Rq
  vs : List Vt
  cs : List Ct
  ps : List Pt
deriving DecidableEq
def Mg.head (m : Mg) : List Tok := [.num m.kd, .num m.fr, .num m.vw, .num m.ins, .num m.sq, .sgn m.rs]
def Mg.toks (m : Mg) : List Tok := m.head ++ (listToks Rq.toks m.bt ++ (listToks Vt.toks m.vs ++ (listToks Ct.toks m.cs ++ listToks Pt.toks m.ps)))
/-- A message's bytes, or none. -/
def bodyM (m : Mg) : Option (List Int) := match bytesOf m.toks with
  | some bs => if bs.length ≤ 65536 then some bs else none
  | none => none
theorem bodyM_len {m : Mg} {bs : List Int} (h : bodyM m = some bs) : bs.length ≤ 65536 := by
  unfold bodyM at h
  split at h
  · split at h
    · cases h; assumption
    · cases h
  · cases h
/-- Nothing but what its kind has. -/
def blankS (v i s r b o c p : Bool) (m : Mg) : Bool :=
  (v || m.vw == 0) && (i || m.ins == 0) && (s || m.sq == 0) && (r || m.rs == 0) && (b || m.bt.length == 0) && (o || m.vs.length == 0) && (c || m.cs.length == 0) && (p || m.ps.length == 0)
def spotS (v i s f : Int) : Bool := decide (0 ≤ v ∧ v ≤ 12 ∧ 0 ≤ i ∧ i ≤ f ∧ 1 ≤ s ∧ s ≤ 16)
def fewS (l : List Rq) (n : Int) : Bool := decide (l.length ≤ 4) && l.all (fun r => validS r n)
def sealsS (l : List Vt) : Bool := l.all (fun v => decide (0 ≤ v.sg ∧ v.sg < 1099511627776))
def certS (f n : Int) (c : Ct) : Bool := spotS c.vw c.ins c.sq f && fewS c.bt n && risingS c.vs f && sealsS c.vs
/-- Is b behind a: by Inst, then Seq? -/
def behindS (a b : Ct) : Bool := decide (a.ins < b.ins ∨ (a.ins = b.ins ∧ a.sq < b.sq))
def upS : List Ct → Bool
  | a :: b :: l => behindS a b && upS (b :: l)
  | _ => true
def leavesS (view : Int) (vs : List Vt) (cs : List Ct) (f n : Int) : Bool :=
  decide (1 ≤ view ∧ view ≤ 12) && risingS vs f && sealsS vs && cs.all (fun c => certS f n c && decide (c.vw < view)) && upS cs
def riseP : List Pt → Bool
  | a :: b :: l => decide (a.fr < b.fr) && riseP (b :: l)
  | _ => true
def partS (view f n : Int) (p : Pt) : Bool := decide (0 ≤ p.fr ∧ p.fr < 3 * f + 1 ∧ 0 ≤ p.sg ∧ p.sg < 1099511627776) && leavesS view p.vs p.cs f n
def partsS (view : Int) (l : List Pt) (f n : Int) : Bool := decide ((l.length : Int) = 2 * f + 1) && l.all (partS view f n) && riseP l
theorem upS_next {l : List Ct} {k : Nat} {a b : Ct} {r : List Ct} (h1 : l.drop k = a :: b :: r) : upS (l.drop k) = (behindS a b && upS (l.drop (k + 1))) := by
  have : l.drop (k + 1) = b :: r := by rw [← List.drop_drop, h1]; rfl
  rw [h1, this]; rfl
theorem upS_last {l : List Ct} {k : Nat} (h : l.length ≤ k + 1) : upS (l.drop k) = true := by
  have hl : (l.drop k).length ≤ 1 := by rw [List.length_drop]; omega
  match l.drop k, hl with
  | [], _ => rfl
  | [_], _ => rfl
theorem riseP_next {l : List Pt} {k : Nat} {a b : Pt} {r : List Pt} (h1 : l.drop k = a :: b :: r) : riseP (l.drop k) = (decide (a.fr < b.fr) && riseP (l.drop (k + 1))) := by
  have : l.drop (k + 1) = b :: r := by rw [← List.drop_drop, h1]; rfl
  rw [h1, this]; rfl
theorem riseP_last {l : List Pt} {k : Nat} (h : l.length ≤ k + 1) : riseP (l.drop k) = true := by
  have hl : (l.drop k).length ≤ 1 := by rw [List.length_drop]; omega
  match l.drop k, hl with
  | [], _ => rfl
  | [_], _ => rfl
/-- A row all of which holds, one more at a time. -/
theorem all_next {α : Type} {p : α → Bool} {l : List α} {k : Nat} {x : α} (h : l[k]? = some x) : (l.take (k + 1)).all p = ((l.take k).all p && p x) := by
  rw [List.take_add_one, h, List.all_append]
  simp
theorem all_far {α : Type} {p : α → Bool} {l : List α} {k : Nat} {x : α} (h : l[k]? = some x) (hs : p x = false) : l.all p = false := by
  rw [List.all_eq_false]
  exact ⟨x, List.mem_of_getElem? h, by rw [hs]; simp⟩
def formS (m : Mg) (f n : Int) : Bool :=
  decide (1 ≤ f ∧ f ≤ 4) &&
  (if m.kd = 1 then blankS false false false false true false false false m && (match m.bt with | [r] => validS r n && decide (m.fr = 100 + r.cl) | _ => false)
  else decide (0 ≤ m.fr ∧ m.fr < 3 * f + 1) &&
    (if m.kd = 2 then blankS false false false false true false false false m && (match m.bt with | [r] => validS r n | _ => false)
    else if m.kd = 3 then blankS true true true false true false false false m && spotS m.vw m.ins m.sq f && fewS m.bt n && decide (m.bt ≠ []) && decide (m.fr = primaryS f m.vw m.ins)
    else if m.kd = 4 ∨ m.kd = 5 then blankS true true true false true false false false m && spotS m.vw m.ins m.sq f && fewS m.bt n
    else if m.kd = 6 then blankS true false false false false false false false m && decide (0 ≤ m.vw ∧ m.vw < 12)
    else if m.kd = 7 then blankS true false false false false true true false m && leavesS m.vw m.vs m.cs f n
    else if m.kd = 8 then blankS true true false false false false false true m && decide (1 ≤ m.vw ∧ m.vw ≤ 12 ∧ 0 ≤ m.ins ∧ m.ins ≤ f ∧ m.fr = primaryS f m.vw m.ins) && partsS m.vw m.ps f n
    else if m.kd = 9 then blankS false false false false false false true false m && (match m.cs with | [c] => certS f n c | _ => false)
    else if m.kd = 10 then blankS false true true true false false false false m && decide (0 ≤ m.ins ∧ m.ins < n ∧ 1 ≤ m.sq ∧ m.sq ≤ 1048576 ∧ -549755813888 < m.rs ∧ m.rs < 549755813888)
    else false))
end Go.Proofs.YtbegjadohamkkaaGreat
/- The contract of the document's Valid. -/
namespace Go.Proofs.YtbegjadohamkkaaGreat
open Go.RowKit

def Rq.agg (r : Rq) : Value := .agg #[.int .i64 r.cl, .int .i64 r.tm, .int .i64 r.kd, .int .i64 r.ky, .int .i64 r.vl, .int .i64 r.sg]
set_option maxHeartbeats 4000000 in
set_option maxRecDepth 100000 in
theorem rvalid_any (r : Rq) (n : Int) (w : World) :
    Calls Tryz.prog 80 #[.agg #[.int .i64 r.cl, .int .i64 r.tm, .int .i64 r.kd, .int .i64 r.ky, .int .i64 r.vl, .int .i64 r.sg], .int .i64 n] w fun e w' => e = .returned (.bool (validS r n)) ∧ Below w.heap.size w w' := by
  go_enter Tryz.func80, Tryz.ntmps80
  go_wp2
  all_goals go_ret
  all_goals refine ⟨congrArg (fun b => Ending.returned (.bool b)) ?_, ((Below.refl _ _).alloc (Nat.le_refl _) _).alloc (by simp) _⟩
  all_goals (first | exact (decide_eq_false (by omega)).symm | exact (decide_eq_true (by omega)).symm | (rw [Bool.eq_iff_iff]; simp [validS]; omega))
end Go.Proofs.YtbegjadohamkkaaGreat
/- The contracts of ballot's Nodes, Quorum, Weak, Primary; the document's examples. (Over ballot as it landed at d9f4045.) -/
namespace Go.Proofs.YtbegjadohamkkaaGreat
open Go.RowKit

theorem ballow_in {f : Int} (h1 : 1 ≤ f) (h2 : f ≤ 4) (w : World) : Calls Tryz.prog 121 #[.int .i64 f] w fun e w' => e = .returned (.bool true) ∧ w = w' := by
  go_enter Tryz.func121, Tryz.ntmps121
  go_wp2
  go_ret
  exact ⟨rfl, rfl⟩
theorem ballow_out {f : Int} (h : f < 1 ∨ 4 < f) (w : World) : Calls Tryz.prog 121 #[.int .i64 f] w fun e w' => e = .returned (.bool false) ∧ w = w' := by
  by_cases h1 : f < 1
  · clear h
    go_enter Tryz.func121, Tryz.ntmps121
    go_wp2
    go_ret
    exact ⟨rfl, rfl⟩
  · have h1' : 1 ≤ f := by omega
    have h2' : ¬ f ≤ 4 := by omega
    clear h h1
    go_enter Tryz.func121, Tryz.ntmps121
    go_wp2
    go_ret
    exact ⟨rfl, rfl⟩
theorem bnodes_any (f : Int) (w : World) : Calls Tryz.prog 123 #[.int .i64 f] w fun e w' => e = .returned (.int .i64 (nodesS f)) ∧ w = w' := by
  by_cases h : f < 1 ∨ 4 < f
  · rw [nodesS_out h]
    have HA := Lib.hid (ballow_out h)
    clear h
    go_enter Tryz.func123, Tryz.ntmps123
    go_wp2_with fail
    refine (HA.out _).mono ?_
    rintro e w' ⟨rfl, rfl⟩
    go_wp2_with fail
    go_ret
    exact ⟨rfl, rfl⟩
  · have h1 : 1 ≤ f := by omega
    have h2 : f ≤ 4 := by omega
    rw [nodesS_in h1 h2]
    have HA := Lib.hid (ballow_in h1 h2)
    clear h
    go_enter Tryz.func123, Tryz.ntmps123
    go_wp2_with fail
    refine (HA.out _).mono ?_
    rintro e w' ⟨rfl, rfl⟩
    go_wp2_with fail
    go_ret
    exact ⟨rfl, rfl⟩
theorem bquorum_any (f : Int) (w : World) : Calls Tryz.prog 122 #[.int .i64 f] w fun e w' => e = .returned (.int .i64 (quorumS f)) ∧ w = w' := by
  by_cases h : f < 1 ∨ 4 < f
  · rw [quorumS_out h]
    have HA := Lib.hid (ballow_out h)
    clear h
    go_enter Tryz.func122, Tryz.ntmps122
    go_wp2_with fail
    refine (HA.out _).mono ?_
    rintro e w' ⟨rfl, rfl⟩
    go_wp2_with fail
    go_ret
    exact ⟨rfl, rfl⟩
  · have h1 : 1 ≤ f := by omega
    have h2 : f ≤ 4 := by omega
    rw [quorumS_in h1 h2]
    have HA := Lib.hid (ballow_in h1 h2)
    clear h
    go_enter Tryz.func122, Tryz.ntmps122
    go_wp2_with fail
    refine (HA.out _).mono ?_
    rintro e w' ⟨rfl, rfl⟩
    go_wp2_with fail
    go_ret
    exact ⟨rfl, rfl⟩
set_option maxHeartbeats 1000000 in
theorem bprimary_any (f v i : Int) (w : World) : Calls Tryz.prog 165 #[.int .i64 f, .int .i64 v, .int .i64 i] w fun e w' => e = .returned (.int .i64 (primaryS f v i)) ∧ w = w' := by
  rcases primary_cases f v i with h | ⟨⟨h1, h2⟩, h | ⟨h3, h | ⟨h4, h | ⟨h5, h | h6⟩⟩⟩⟩
  · rw [primaryS_out (by omega)]
    have HA := Lib.hid (ballow_out h)
    clear h
    go_enter Tryz.func165, Tryz.ntmps165
    go_wp2_with fail
    refine (HA.out _).mono ?_
    rintro e w' ⟨rfl, rfl⟩
    go_wp2_with fail
    go_ret
    exact ⟨rfl, rfl⟩
  all_goals
    have HA := Lib.hid (ballow_in h1 h2)
  · rw [primaryS_out (by omega)]
    go_enter Tryz.func165, Tryz.ntmps165
    go_wp2_with fail
    refine (HA.out _).mono ?_
    rintro e w' ⟨rfl, rfl⟩
    go_wp2_with fail
    go_ret
    exact ⟨rfl, rfl⟩
  · rw [primaryS_out (by omega)]
    go_enter Tryz.func165, Tryz.ntmps165
    go_wp2_with fail
    refine (HA.out _).mono ?_
    rintro e w' ⟨rfl, rfl⟩
    go_wp2_with fail
    go_ret
    exact ⟨rfl, rfl⟩
  · rw [primaryS_out (by omega)]
    go_enter Tryz.func165, Tryz.ntmps165
    go_wp2_with fail
    refine (HA.out _).mono ?_
    rintro e w' ⟨rfl, rfl⟩
    go_wp2_with fail
    go_ret
    exact ⟨rfl, rfl⟩
  · rw [primaryS_out (by omega)]
    go_enter Tryz.func165, Tryz.ntmps165
    go_wp2_with fail
    refine (HA.out _).mono ?_
    rintro e w' ⟨rfl, rfl⟩
    go_wp2_with fail
    go_ret
    exact ⟨rfl, rfl⟩
  · rw [primaryS_in h1 h2 h3 h4 h5 h6]
    have HN := Lib.hid (bnodes_any f)
    rw [nodesS_in h1 h2] at HN
    have hp : ¬ (3 * f + 1 = 0) := by omega
    have t0 : (3 * f + 1 == 0) = false := by rw [beq_eq_false_iff_ne]; exact hp
    have t1 : decide (v < 0) = false := decide_eq_false (by omega)
    have t2 : decide (12 < v) = false := decide_eq_false (by omega)
    have t3 : decide (i < 0) = false := decide_eq_false (by omega)
    have t4 : decide (f < i) = false := decide_eq_false (by omega)
    go_enter Tryz.func165, Tryz.ntmps165
    go_wp2_with fail
    refine (HA.out _).mono ?_
    rintro e w' ⟨rfl, rfl⟩
    go_wp2_with fail
    refine (HN.out _).mono ?_
    rintro e w' ⟨rfl, rfl⟩
    go_wp2_with fail
    go_ret
    exact ⟨rfl, rfl⟩

end Go.Proofs.YtbegjadohamkkaaGreat
/- The contracts of the document's own notary: Seal, Copy. -/
namespace Go.Proofs.YtbegjadohamkkaaGreat
open Go.RowKit Go.Maps

theorem info_int : (Tryz.prog.info? 3).map (fun i => (i.zero, i.size, i.bytes)) = some (some (.int .i64 0), 1, 8) := by kernel_rfl
theorem info_str : (Tryz.prog.info? 9).map (fun i => (i.zero, i.size, i.bytes)) = some (some (.string ByteArray.empty), 1, 16) := by kernel_rfl
theorem parties_app (l : List Deed) (d : Deed) : parties (l ++ [d]) = parties l ++ [.int .i64 d.1] := by simp [parties]
theorem texts_app (l : List Deed) (d : Deed) : texts (l ++ [d]) = texts l ++ [.string d.2] := by simp [texts]
theorem most1 {n : Nat} (h : n ≤ 1000000) : n + 1 ≤ maxLen := by unfold maxLen; omega
theorem most2 {n b : Nat} (h : n ≤ 1000000) (hb : b ≤ 100) : (n + 1) * b ≤ 140737488355328 :=
  Nat.le_trans (Nat.mul_le_mul (show n + 1 ≤ 1000001 by omega) hb) (by omega)
set_option maxHeartbeats 1000000 in
theorem rseal_at {R : Nat → Prop} {w : World} {rb : Nat} {l : List Deed} (h : Rf R w rb l) (hlen : l.length ≤ 1000000) {p : Int} {A : Option Addr} {n c B : Nat} {zs : List Int} (hh : Has w B A (u8s zs)) (hn : zs.length = n) (hA : ∀ ad, A = some ad → u8s zs ≠ [] → ¬ R ad.block) :
    Calls Tryz.prog 111 #[.pointer (some ⟨rb, 0, none⟩), .int .i64 p, .slice A n c] w fun e w' => e = .returned (.int .i64 (sealS l (p, strOfNums zs))) ∧ Rf (fun k => R k ∨ w.heap.size ≤ k) w' rb (sealed l (p, strOfNums zs)) ∧ Turn R w w' := by
  have HC := Lib.hid (rfind_any h hlen hh hn (c := c) (p := p))
  obtain ⟨s, hs⟩ : ∃ s, strOfNums zs = s := ⟨_, rfl⟩
  rw [hs] at HC ⊢
  by_cases hy : (p, s) ∈ l
  · rw [decide_eq_true hy, findS_in hy] at HC
    have HN := Lib.hid h
    have HF := Lib.hid (sealed_in hy)
    have HS := Lib.hid (show (idx l (p, s) : Int) + 1 = sealS l (p, s) from rfl)
    clear h hh hy hs
    go_enter Tryz.func111, Tryz.ntmps111
    go_wp2_with fail
    refine HC.out.mono ?_
    rintro e w' ⟨rfl, rfl⟩
    go_wp2_with fail
    go_ret
    rw [HS.out, HF.out]
    exact ⟨rfl, HN.out.mono (fun k _ hk => Or.inl hk), Turn.refl _ _⟩
  · rw [decide_eq_false hy, findS_out hy] at HC
    have HS := Lib.hid (sealS_out hy)
    have HF := Lib.hid (sealed_out hy)
    obtain ⟨v1, v2, hb, ho1, ho2, hz1, hz2⟩ := h.ex
    have hrb := h.zone
    obtain ⟨i0, hi, hx0, hx1, hx2⟩ := info_parts info_int
    obtain ⟨i1, hj, hy0, hy1, hy2⟩ := info_parts info_str
    have HA := Lib.hid hA
    have HZ1 := Lib.hid hz1
    have HZ2 := Lib.hid hz2
    have HH := Lib.hid hh
    have HST := Lib.hid hs
    have hcell0 := hb.cell 0
    simp only [List.getElem?_toArray, List.getElem?_cons_zero] at hcell0
    have HB := Lib.hid hb
    have HO1 := Lib.hid ho1
    have HO2 := Lib.hid ho2
    have HR := Lib.hid hrb
    have hM1 := most1 hlen
    have HM2 := Lib.hid (fun b => most2 (b := b) hlen)
    clear h hy hs hh hA hz1 hz2 hb ho1 ho2 hrb
    go_enter Tryz.func111, Tryz.ntmps111
    go_wp2_with fail
    refine HC.out.mono ?_
    rintro e w' ⟨rfl, rfl⟩
    go_wp2_with (at_builtin; refine wpList_app2 rfl (.tmp 22) (.tmp 24) 94 rfl 0 3 i0 (.int .i64 0) 8 Tryz.underlying94 hi hx0 hx1 hx2 rfl _ _ _ rfl (HO1.out.alloc _) _ (some ⟨w.heap.size, 0, none⟩) 1 1 [.int .i64 p] rfl rfl (Has.fresh w #[.int .i64 p] 3) (fun h => by cases h) (by simp; rfl) hM1 (HM2.out 8 (by omega)) (Nat.zero_le _) ?_)
    intro va w2 hoa hga hla
    obtain ⟨Aa, ca, rfl, _, _⟩ := own_slice hoa
    have ht1 : Turn R w (w.alloc (.cells #[.int .i64 p] 3)) := (Turn.refl R w).alloc _
    have ht2 : Turn R w w2 := ht1.grown hga (fun k hk _ => HZ1.out k hk)
    have hb2 : Blk w2 rb 97 #[v1, v2] := (HB.out.alloc _).grown hga (fun e => own_blk_ne HO1.out HB.out (by decide) e.symm)
    have ho2 : w2.ownsRow 0 9 1 v2 l.length (texts l) := (HO2.out.alloc _).kept hga (own_apart (HO2.out.alloc (.cells #[.int .i64 p] 3)) (HO1.out.alloc _) (by decide))
    have hc2 := hb2.cell 0
    simp only [List.getElem?_toArray, List.getElem?_cons_zero] at hc2
    have hf2 := hb2.frozen 0
    have HLA := Lib.hid hla
    have HHA := Lib.hid (show Has w2 B A (u8s zs) from has_apart HH.out ht2 HA.out)
    have HT2 := Lib.hid ht2
    have HB2 := Lib.hid hb2
    have HO2b := Lib.hid ho2
    have HOA := Lib.hid hoa
    clear hla ht1 ht2 hga ho2 hoa hb2
    go_wp2_with fail
    obtain ⟨w3, hw3⟩ : ∃ w3, w3 = w2.setCell ⟨rb, 0, none⟩ (.slice Aa (l.length + 1) ca) := ⟨_, rfl⟩
    have hb3 : Blk w3 rb 97 #[.slice Aa (l.length + 1) ca, v2] := by rw [hw3]; exact HB2.out.set_ 0 _
    have ho2 : w3.ownsRow 0 9 1 v2 l.length (texts l) := by rw [hw3]; exact own_far HO2b.out (own_blk_ne HO2b.out HB2.out (by decide)) _
    have hoa : w3.ownsRow 0 3 1 (.slice Aa (l.length + 1) ca) (l.length + 1) (parties l ++ [.int .i64 p]) := by rw [hw3]; exact own_far HOA.out (own_blk_ne HOA.out HB2.out (by decide)) _
    have ht3 : Turn R w w3 := by rw [hw3]; exact HT2.out.set_ _ _ HR.out
    have hh3 : Has w3 B A (u8s zs) := by
      have h1 : Turn R w2 (w2.setCell ⟨rb, 0, none⟩ (.slice Aa (l.length + 1) ca)) := (Turn.refl R w2).set_ _ _ HR.out
      rw [hw3]; exact has_apart HHA.out h1 HA.out
    rw [← hw3]
    have hconv := conv_has (w := w3.drew) (c := c) hh3.drew hn
    rw [HST.out] at hconv
    have hc3 := hb3.drew.cell 1
    simp only [List.getElem?_toArray, List.getElem?_cons_zero, List.getElem?_cons_succ] at hc3
    have HB3 := Lib.hid hb3
    have HO2c := Lib.hid ho2
    have HOAc := Lib.hid hoa
    have HT3 := Lib.hid ht3
    have hown3 : (w3.drew.alloc (.cells #[.string s] 9)).ownsRow 0 9 1 v2 l.length (texts l) := HO2c.out.drew.alloc _
    have hnew3 : Has (w3.drew.alloc (.cells #[.string s] 9)) (w3.heap.size + 1) (some ⟨w3.heap.size, 0, none⟩) [.string s] := Has.fresh w3.drew #[.string s] 9
    have hone3 : ∀ u ∈ [Value.string s], u.oneCell' = true := by simp; rfl
    have hblk3 : Blk (w3.drew.alloc (.cells #[.string s] 9)) rb 97 #[.slice Aa (l.length + 1) ca, v2] := HB3.out.drew.alloc _
    have HNE := Lib.hid (own_blk_ne hown3 hblk3 (by decide))
    have hby3 := HM2.out 16 (by omega)
    clear hc2 hf2 HT2 HB2 HO2b HOA HHA hcell0 hb3 ho2 hoa ht3 hh3 hw3
    have hc3b := (HB3.out.alloc (.cells #[.string s] 9)).cell 1
    simp only [List.getElem?_toArray, List.getElem?_cons_zero, List.getElem?_cons_succ] at hc3b
    go_region_law (refine step_app rfl (.tmp 32) (.tmp 35) 95 rfl 0 9 i1 (.string ByteArray.empty) 16 Tryz.underlying95 hj hy0 hy1 hy2 rfl v2 l.length (texts l) rfl hown3 _ (some ⟨w3.heap.size, 0, none⟩) 1 1 [.string s] rfl rfl hnew3 (fun h => nomatch h) hone3 hM1 hby3 (Nat.zero_le _) ?_; intro vb w5 hob hgb hlb; obtain ⟨Ab, cb, rfl, _, _⟩ := own_slice hob; have hb5 := hblk3.grown hgb (fun e => HNE.out e.symm); have hc5 := hb5.cell 1; have hc50 := hb5.cell 0; have hf5 := hb5.frozen 1; simp only [List.getElem?_toArray, List.getElem?_cons_zero, List.getElem?_cons_succ] at hc5 hc50)
    all_goals
      have hoa5 : w5.ownsRow 0 3 1 (.slice Aa (l.length + 1) ca) (l.length + 1) (parties l ++ [.int .i64 p]) := (HOAc.out.drew.alloc (.cells #[.string s] 9)).kept hgb (own_apart (HOAc.out.drew.alloc (.cells #[.string s] 9)) hown3 (by decide))
      have hoa6 : (w5.setCell ⟨rb, 1, none⟩ (.slice Ab (l.length + 1) cb)).ownsRow 0 3 1 (.slice Aa (l.length + 1) ca) (l.length + 1) (parties l ++ [.int .i64 p]) := own_far hoa5 (own_blk_ne hoa5 hb5 (by decide)) _
      have hob6 : (w5.setCell ⟨rb, 1, none⟩ (.slice Ab (l.length + 1) cb)).ownsRow 0 9 1 (.slice Ab (l.length + 1) cb) (l.length + 1) (texts l ++ [.string s]) := own_far hob (own_blk_ne hob hb5 (by decide)) _
      have ht4 : Turn R w (w3.drew.alloc (.cells #[.string s] 9)) := (HT3.out.drewN 1).alloc _
      have ht5 : Turn R w w5 := ht4.grown hgb (fun k hk _ => HZ2.out k hk)
      have ht6 : Turn R w (w5.setCell ⟨rb, 1, none⟩ (.slice Ab (l.length + 1) cb)) := ht5.set_ _ _ HR.out
      have hsz := HT3.out.size
      have HFin := Lib.hid (show Rf (fun k => R k ∨ w.heap.size ≤ k) (w5.setCell ⟨rb, 1, none⟩ (.slice Ab (l.length + 1) cb)) rb (l ++ [(p, s)]) from
        ⟨Or.inl HR.out, _, _, hb5.set_ 1 _, by rw [parties_app, List.length_append]; exact hoa6, by rw [texts_app, List.length_append]; exact hob6,
          fun g hg => (HLA.out.elim (fun h => Or.inl (HZ1.out g (h ▸ hg))) (fun h => Or.inr (by have := Option.some.inj (h.symm.trans hg); omega))),
          fun g hg => (hlb.elim (fun h => Or.inl (HZ2.out g (h ▸ hg))) (fun h => Or.inr (by
            have := Option.some.inj (h.symm.trans hg)
            have hz : w3.heap.size + 1 = g := by simpa using this
            omega)))⟩)
      have HT6 := Lib.hid ht6
      clear hoa5 hoa6 hob6 ht4 ht5 ht6 hsz hgb hob hlb
      go_wp2_with fail
      go_ret
      rw [HS.out, HF.out]
      exact ⟨rfl, HFin.out, HT6.out⟩

end Go.Proofs.YtbegjadohamkkaaGreat
/- Messages: how they are taken, envelopes, what a writer that counts keeps. Nothing of the program. -/
namespace Go.Proofs.YtbegjadohamkkaaGreat

/-- The bytes of a row of fields, if they are not too many. -/
def capped (ts : List Tok) : Option (List Int) := match bytesOf ts with
  | some bs => if bs.length ≤ 65536 then some bs else none
  | none => none
theorem bodyM_is (m : Mg) : bodyM m = capped m.toks := rfl
/-- A writer that holds these bytes, or is bad, takes more. -/
def gput : Option (List Int) → Option (List Int) → Option (List Int)
  | some a, some b => if a.length + b.length ≤ 65536 then some (a ++ b) else none
  | _, _ => none
theorem bytesOf_app (l m : List Tok) : bytesOf (l ++ m) = (match bytesOf l, bytesOf m with | some a, some b => some (a ++ b) | _, _ => none) := by
  unfold bytesOf
  rw [codes_app]
  cases codes l <;> cases codes m <;> simp [flat_app]
theorem capped_some {ts : List Tok} {bs : List Int} (h : bytesOf ts = some bs) : capped ts = if bs.length ≤ 65536 then some bs else none := by unfold capped; rw [h]
theorem capped_none {ts : List Tok} (h : bytesOf ts = none) : capped ts = none := by unfold capped; rw [h]
theorem gput_capped (ts us : List Tok) : gput (capped ts) (bytesOf us) = capped (ts ++ us) := by
  have ha := bytesOf_app ts us
  cases h1 : bytesOf ts with
  | none => rw [h1] at ha; rw [capped_none h1, capped_none ha]; rfl
  | some a =>
    cases h2 : bytesOf us with
    | none =>
      rw [h1, h2] at ha
      rw [capped_none ha]
      cases capped ts <;> rfl
    | some b =>
      rw [h1, h2] at ha
      rw [capped_some h1, capped_some ha]
      by_cases hl : a.length ≤ 65536
      · rw [if_pos hl]
        show (if a.length + b.length ≤ 65536 then some (a ++ b) else none) = _
        rw [List.length_append]
      · rw [if_neg hl, if_neg (by rw [List.length_append]; omega)]; rfl
theorem capped_len {ts : List Tok} {bs : List Int} (h : capped ts = some bs) : bs.length ≤ 65536 ∧ bytesOf ts = some bs := by
  unfold capped at h
  split at h
  · split at h
    · cases h; exact ⟨by assumption, by assumption⟩
    · cases h
  · cases h

/-- A taker of a message. -/
def tkMsg (zs : List Int) : Tkr Mg := fun i =>
  (tkNum zs i).bind fun a => (tkNum zs a.2).bind fun b => (tkNum zs b.2).bind fun c => (tkNum zs c.2).bind fun d => (tkNum zs d.2).bind fun e => (tkSgn zs e.2).bind fun f =>
    (tkBatch zs f.2).bind fun g => (tkVotes zs g.2).bind fun h => (tkCerts zs h.2).bind fun k => (tkParts zs k.2).bind fun l =>
      some (⟨a.1, b.1, c.1, d.1, e.1, f.1, g.1, h.1, k.1, l.1⟩, l.2)
/-- The message whose bytes these are. -/
def parseM (zs : List Int) : Option Mg := if zs.length ≤ 65536 then (match tkMsg zs 0 with | some (m, j) => if j = zs.length then some m else none | none => none) else none
theorem tells_msg {zs : List Int} (hz : ∀ z ∈ zs, 0 ≤ z ∧ z ≤ 255) : Tells zs (tkMsg zs) Mg.toks := by
  constructor
  · rintro ⟨x1, x2, x3, x4, x5, x6, x7, x8, x9, x10⟩ ns i j hc ha
    simp only [Mg.toks, Mg.head, List.cons_append, List.nil_append, codes_cons, codes_app_iff] at hc
    obtain ⟨n1, _, h1, ⟨n2, _, h2, ⟨n3, _, h3, ⟨n4, _, h4, ⟨n5, _, h5, ⟨n6, _, h6, ⟨m7, _, h7, ⟨m8, _, h8, ⟨m9, m10, h9, h10, rfl⟩, rfl⟩, rfl⟩, rfl⟩, rfl⟩, rfl⟩, rfl⟩, rfl⟩, rfl⟩ := hc
    obtain ⟨k1, a1, k2, a2, k3, a3, k4, a4, k5, a5, k6, a6, ha⟩ := ha
    obtain ⟨k7, a7, ha⟩ := At.app.1 ha
    obtain ⟨k8, a8, ha⟩ := At.app.1 ha
    obtain ⟨k9, a9, a10⟩ := At.app.1 ha
    obtain ⟨rfl, _⟩ := code_num.1 h1
    obtain ⟨rfl, _⟩ := code_num.1 h2
    obtain ⟨rfl, _⟩ := code_num.1 h3
    obtain ⟨rfl, _⟩ := code_num.1 h4
    obtain ⟨rfl, _⟩ := code_num.1 h5
    obtain rfl := code_sgn1 h6
    simp [tkMsg, tkNum, tkSgn, a1, a2, a3, a4, a5, a6, (tells_batch hz).fwd h7 a7, (tells_votes hz).fwd h8 a8, (tells_certs hz).fwd h9 a9, (tells_parts hz).fwd h10 a10]
  · intro x i j ht
    simp only [tkMsg, Option.bind_eq_some_iff] at ht
    obtain ⟨⟨x1, k1⟩, h1, ⟨x2, k2⟩, h2, ⟨x3, k3⟩, h3, ⟨x4, k4⟩, h4, ⟨x5, k5⟩, h5, ⟨x6, k6⟩, h6, ⟨x7, k7⟩, h7, ⟨x8, k8⟩, h8, ⟨x9, k9⟩, h9, ⟨x10, k10⟩, h10, h⟩ := ht
    injection h with h
    injection h with h h'
    subst h; subst h'
    obtain ⟨a1, b1, c1⟩ := (tells_num hz).back h1
    obtain ⟨a2, b2, c2⟩ := (tells_num hz).back h2
    obtain ⟨a3, b3, c3⟩ := (tells_num hz).back h3
    obtain ⟨a4, b4, c4⟩ := (tells_num hz).back h4
    obtain ⟨a5, b5, c5⟩ := (tells_num hz).back h5
    obtain ⟨a6, b6, c6⟩ := (tells_sgn hz).back h6
    obtain ⟨a7, b7, c7⟩ := (tells_batch hz).back h7
    obtain ⟨a8, b8, c8⟩ := (tells_votes hz).back h8
    obtain ⟨a9, b9, c9⟩ := (tells_certs hz).back h9
    obtain ⟨a10, b10, c10⟩ := (tells_parts hz).back h10
    refine ⟨a1 ++ (a2 ++ (a3 ++ (a4 ++ (a5 ++ (a6 ++ (a7 ++ (a8 ++ (a9 ++ a10)))))))), ?_, ?_⟩
    · simp only [Mg.toks, Mg.head, List.cons_append, List.nil_append]
      exact codes_app_some (l := [_]) b1 (codes_app_some (l := [_]) b2 (codes_app_some (l := [_]) b3 (codes_app_some (l := [_]) b4 (codes_app_some (l := [_]) b5 (codes_app_some (l := [_]) b6 (codes_app_some b7 (codes_app_some b8 (codes_app_some b9 b10))))))))
    · exact At.app.2 ⟨_, c1, At.app.2 ⟨_, c2, At.app.2 ⟨_, c3, At.app.2 ⟨_, c4, At.app.2 ⟨_, c5, At.app.2 ⟨_, c6, At.app.2 ⟨_, c7, At.app.2 ⟨_, c8, At.app.2 ⟨_, c9, c10⟩⟩⟩⟩⟩⟩⟩⟩⟩
/-- What is written is parsed as itself. -/
theorem parse_body {m : Mg} {bs : List Int} (h : bodyM m = some bs) : parseM bs = some m := by
  obtain ⟨h1, h2⟩ := capped_len h
  unfold parseM
  rw [if_pos h1, taken0 (f := tkMsg) (g := Mg.toks) (fun hz => tells_msg hz) h2]
  exact if_pos rfl
/-- What is parsed is written as just these bytes. -/
theorem body_parse {zs : List Int} (hz : ∀ z ∈ zs, 0 ≤ z ∧ z ≤ 255) {m : Mg} (h : parseM zs = some m) : bodyM m = some zs ∧ m.toks.length ≤ zs.length ∧ zs.length ≤ 65536 := by
  unfold parseM at h
  split at h
  · rename_i hl
    split at h
    · rename_i m' j hm
      split at h
      · rename_i hj
        injection h with h
        subst h
        obtain ⟨q, h1, _, h3, h4, h5⟩ := taken_back (f := tkMsg) (g := Mg.toks) (fun hz => tells_msg hz) hz (p := 0) (Nat.zero_le _) hm
        have hq : q = zs.length := by omega
        subst hq
        rw [List.drop_zero, Nat.sub_zero, List.take_length] at h4
        refine ⟨?_, by omega, hl⟩
        rw [bodyM_is, capped_some h4, if_pos hl]
      · cases h
    · cases h
  · cases h
theorem parse_nil : parseM [] = none := by
  rfl
/-- An envelope's bytes, or none. -/
def envS (k : Int) (body : List Int) : Option (List Int) := gput (capped [.num k]) (some body)
end Go.Proofs.YtbegjadohamkkaaGreat
/- Heads and tails of slices of bytes; the deeds of messages. -/
namespace Go.Proofs.YtbegjadohamkkaaGreat
open Go.RowKit

/-- Where a slice's rest lies. -/
def btailA (A : Option Addr) (c k : Nat) : Option Addr := if c = k then A else A.map fun x => x.add (k * 1)
set_option maxRecDepth 100000 in
theorem bslice_head {w : World} (A : Option Addr) {n c k : Nat} (h : k ≤ c) : (Instr.slice 39 (.slice A n c) none (some (.int .i64 k)) none).run Tryz.prog w = .ok (.slice A k c) w := by
  rw [run_slice_h w 39 A n c Tryz.underlying39 .i64 k (by omega) (by omega)]
  have : (sizeOf (Tryz.prog.elem 39)).run Tryz.prog w = .ok 1 w := by kernel_rfl
  rw [this]
  show Result.ok (sliced A 0 (k : Int).toNat c 1) w = _
  unfold sliced
  cases A with
  | none => simp
  | some a => simp [Addr.add]
set_option maxRecDepth 100000 in
theorem bslice_tail {w : World} (A : Option Addr) {n c k : Nat} (h : k ≤ n) : (Instr.slice 39 (.slice A n c) (some (.int .i64 k)) none none).run Tryz.prog w = .ok (.slice (btailA A c k) (n - k) (c - k)) w := by
  rw [run_slice_l w 39 A n c Tryz.underlying39 .i64 k (by omega) (by omega)]
  have : (sizeOf (Tryz.prog.elem 39)).run Tryz.prog w = .ok 1 w := by kernel_rfl
  rw [this]
  show Result.ok (sliced A (k : Int).toNat n c 1) w = _
  unfold sliced btailA
  simp
theorem u8s_drop (l : List Int) (k : Nat) : u8s (l.drop k) = (u8s l).drop k := by simp [u8s]
theorem u8s_take (l : List Int) (k : Nat) : u8s (l.take k) = (u8s l).take k := by simp [u8s]
theorem bhas_tail {w : World} {B c k : Nat} {A : Option Addr} {l : List Int} (h : Has w B A (u8s l)) (hc : l.length ≤ c) (hk : k ≤ l.length) : Has w B (btailA A c k) (u8s (l.drop k)) := fun j u hj => by
  unfold btailA
  by_cases e : c = k
  · rw [List.drop_eq_nil_of_le (by omega)] at hj
    simp [u8s] at hj
  · rw [if_neg e]
    rw [u8s_drop, List.getElem?_drop] at hj
    obtain ⟨ad, rfl, hb, hcell⟩ := h _ u hj
    refine ⟨ad.add (k * 1), rfl, by rw [addr_block]; exact hb, ?_⟩
    rw [Nat.mul_one, addr_add]; exact hcell
theorem bhas_head {w : World} {B k : Nat} {A : Option Addr} {l : List Int} (h : Has w B A (u8s l)) : Has w B A (u8s (l.take k)) := fun j u hj => by
  rw [u8s_take, List.getElem?_take] at hj
  split at hj
  · exact h j u hj
  · cases hj
theorem num_small {z : Int} (h1 : 0 ≤ z) (h2 : z < 1099511627776) : fit z := by unfold fit Lit.wf; simp [IntKind.min, IntKind.max, IntKind.signed, IntKind.bits]; omega
end Go.Proofs.YtbegjadohamkkaaGreat
/- The contracts of the document's place, seals, batch, cert. -/
namespace Go.Proofs.YtbegjadohamkkaaGreat
open Go.RowKit

set_option maxHeartbeats 1000000 in
theorem rspot_any (v i s f : Int) (w : World) : Calls Tryz.prog 81 #[.int .i64 v, .int .i64 i, .int .i64 s, .int .i64 f] w fun e w' => e = .returned (.bool (spotS v i s f)) ∧ w' = w := by
  go_enter Tryz.func81, Tryz.ntmps81
  go_wp2
  all_goals go_ret
  all_goals refine ⟨congrArg (fun b => Ending.returned (.bool b)) ?_, rfl⟩
  all_goals (first | exact (decide_eq_false (by omega)).symm | exact (decide_eq_true (by omega)).symm | (rw [Bool.eq_iff_iff]; simp [spotS]; omega))
set_option maxHeartbeats 1000000 in
set_option maxRecDepth 100000 in
theorem rseals_any {w : World} {A : Option Addr} {c B : Nat} {l : List Vt} (hh : Has w B A (voteCells l)) (hl : l.length ≤ 9223372036854775806) :
    Calls Tryz.prog 129 #[.slice A l.length c] w fun e w' => e = .returned (.bool (sealsS l)) ∧ ∃ q, w' = w.drewN q := by
  have H1 := Lib.hid hh
  clear hh
  go_enter Tryz.func129, Tryz.ntmps129
  go_wp2_with fail
  go_loopw [3] (fun x wr => ∃ k q : Nat, x = .int .i64 k ∧ k ≤ l.length ∧ Hid (wr = w.drewN q) ∧ Hid ((l.take k).all (fun v => decide (0 ≤ v.sg ∧ v.sg < 1099511627776)) = true)) (fun x _ => l.length - (intOf x).toNat)
  case atStart => exact ⟨0, 0, rfl, Nat.zero_le _, rfl, rfl⟩
  case round =>
    obtain ⟨k, q, rfl, hk, HW, HT⟩ := hrel
    by_cases hlt : k < l.length
    · have hHr : Has wr B A (voteCells l) := by rw [HW.out]; exact H1.out.drewN q
      obtain ⟨ad, rfl, _, c0, c1⟩ := vote_at hHr hlt
      have HX := Lib.hid (show l[k]? = some l[k] from List.getElem?_eq_getElem hlt)
      obtain ⟨x, hx⟩ : ∃ x, l[k] = x := ⟨_, rfl⟩
      rw [hx] at c0 c1 HX
      clear hx hHr
      by_cases h1 : x.sg < 0
      · have HE := Lib.hid (show sealsS l = false from all_far HX.out (decide_eq_false (by omega)))
        have t1 : decide (x.sg < 0) = true := decide_eq_true h1
        clear h1
        go_wp2
        go_ret
        exact ⟨by rw [HE.out]; rfl, q, HW.out⟩
      · have t1 : decide (x.sg < 0) = false := decide_eq_false h1
        by_cases h2 : 1099511627776 ≤ x.sg
        · have HE := Lib.hid (show sealsS l = false from all_far HX.out (decide_eq_false (by omega)))
          have t2 : decide ((1099511627776 : Int) ≤ x.sg) = true := decide_eq_true h2
          clear h1 h2
          go_wp2
          go_ret
          exact ⟨by rw [HE.out]; rfl, q, HW.out⟩
        · have HE := Lib.hid (show (l.take (k + 1)).all (fun v => decide (0 ≤ v.sg ∧ v.sg < 1099511627776)) = true by rw [all_next HX.out, HT.out, decide_eq_true (by omega)]; rfl)
          have t2 : decide ((1099511627776 : Int) ≤ x.sg) = false := decide_eq_false h2
          clear h1 h2
          go_wp2
          go_roundw
          case rel => exact ⟨k + 1, q, by go_num, by omega, HW.out, HE.out⟩
          case measure => simp [intOf]; omega
    · have HE := Lib.hid (show sealsS l = true by have := HT.out; rwa [List.take_of_length_le (by omega)] at this)
      go_wp2
      go_ret
      exact ⟨by rw [HE.out]; rfl, q, HW.out⟩
set_option maxHeartbeats 1000000 in
set_option maxRecDepth 100000 in
theorem rfew_any {w : World} {A : Option Addr} {c B : Nat} {l : List Rq} (hh : Has w B A (reqCells l)) (hl : l.length ≤ 9223372036854775806) (n : Int) :
    Calls Tryz.prog 82 #[.slice A l.length c, .int .i64 n] w fun e w' => e = .returned (.bool (fewS l n)) ∧ Below w.heap.size w w' := by
  have H1 := Lib.hid hh.tight
  clear hh
  by_cases h4 : l.length ≤ 4
  · have t0 : decide ((4 : Int) < (l.length : Int)) = false := decide_eq_false (by omega)
    have t1 : decide (4 < l.length) = false := decide_eq_false (by omega)
    have HF := Lib.hid (show fewS l n = l.all (fun r => validS r n) by unfold fewS; rw [decide_eq_true h4, Bool.true_and])
    rw [HF.out]
    go_enter Tryz.func82, Tryz.ntmps82
    go_wp2_with fail
    go_loopw [5] (fun x wr => ∃ k : Nat, x = .int .i64 k ∧ k ≤ l.length ∧ Hid (Below w.heap.size w wr) ∧ Hid ((l.take k).all (fun r => validS r n) = true)) (fun x _ => l.length - (intOf x).toNat)
    case atStart => exact ⟨0, rfl, Nat.zero_le _, Below.refl _ _, rfl⟩
    case round =>
      obtain ⟨k, rfl, hk, HW, HT⟩ := hrel
      by_cases hlt : k < l.length
      · obtain ⟨a1, rfl, _, c0, c1, c2, c3, c4, c5⟩ := (H1.out.below HW.out (Nat.le_refl _)).req hlt
        have HX := Lib.hid (show l[k]? = some l[k] from List.getElem?_eq_getElem hlt)
        obtain ⟨x, hx⟩ : ∃ x, l[k] = x := ⟨_, rfl⟩
        rw [hx] at c0 c1 c2 c3 c4 c5 HX
        have HP := Lib.hid (fun w => rvalid_any x n w)
        clear hx
        cases hv : validS x n
        · have HE := Lib.hid (all_far (p := fun r => validS r n) HX.out hv)
          rw [hv] at HP
          clear hv
          go_wp2_with fail
          refine (HP.out _).mono ?_
          rintro e w2 ⟨rfl, hb2⟩
          have HB2 := Lib.hid (HW.out.trans (hb2.mono HW.out.size))
          clear hb2
          go_wp2_with fail
          go_ret
          exact ⟨by rw [HE.out]; rfl, HB2.out⟩
        · have HE := Lib.hid (show (l.take (k + 1)).all (fun r => validS r n) = true by rw [all_next HX.out, HT.out, hv]; rfl)
          rw [hv] at HP
          clear hv
          go_wp2_with fail
          refine (HP.out _).mono ?_
          rintro e w2 ⟨rfl, hb2⟩
          have HB2 := Lib.hid (HW.out.trans (hb2.mono HW.out.size))
          clear hb2
          go_wp2_with fail
          go_roundw
          case rel => exact ⟨k + 1, by go_num, by omega, HB2.out, HE.out⟩
          case measure => simp [intOf]; omega
      · have HE := Lib.hid (show l.all (fun r => validS r n) = true by have := HT.out; rwa [List.take_of_length_le (by omega)] at this)
        go_wp2_with fail
        go_ret
        exact ⟨by rw [HE.out]; rfl, HW.out⟩
  · have t0 : decide ((4 : Int) < (l.length : Int)) = true := decide_eq_true (by omega)
    have t1 : decide (4 < l.length) = true := decide_eq_true (by omega)
    have HF := Lib.hid (show fewS l n = false by unfold fewS; rw [decide_eq_false h4]; rfl)
    rw [HF.out]
    go_enter Tryz.func82, Tryz.ntmps82
    go_wp2_with fail
    go_ret
    exact ⟨rfl, Below.refl _ _⟩
/-- A certificate's lists are not too long. -/
structure Cs.Short (x : Cs) : Prop where
  bt : x.c.bt.length ≤ 1000000
  vs : x.c.vs.length ≤ 1000000
set_option maxHeartbeats 1000000 in
set_option maxRecDepth 100000 in
theorem rcert_any (x : Cs) {w : World} (h : x.In w w.heap.size) (hs : x.Short) (f n : Int) :
    Calls Tryz.prog 85 #[.agg #[.int .i64 x.c.vw, .int .i64 x.c.ins, .int .i64 x.c.sq, .slice x.A1 x.c.bt.length x.c1, .slice x.A2 x.c.vs.length x.c2], .int .i64 f, .int .i64 n] w fun e w' => e = .returned (.bool (certS f n x.c)) ∧ Below w.heap.size w w' := by
  have HB := Lib.hid (show Below w.heap.size w (w.alloc (.cells #[.int .i64 x.c.vw, .int .i64 x.c.ins, .int .i64 x.c.sq, .slice x.A1 x.c.bt.length x.c1, .slice x.A2 x.c.vs.length x.c2] 25)) from (Below.refl _ _).alloc (Nat.le_refl _) _)
  have HX := Lib.hid (show Blk (w.alloc (.cells #[.int .i64 x.c.vw, .int .i64 x.c.ins, .int .i64 x.c.sq, .slice x.A1 x.c.bt.length x.c1, .slice x.A2 x.c.vs.length x.c2] 25)) w.heap.size 25 _ from Blk.new _ _ _)
  have HI := Lib.hid h
  have HS := Lib.hid hs
  have KP := Lib.hid (fun w => rspot_any x.c.vw x.c.ins x.c.sq f w)
  clear h hs
  go_enter Tryz.func85, Tryz.ntmps85
  go_wp2_with fail
  refine (KP.out _).mono ?_
  rintro e w' ⟨rfl, rfl⟩
  cases hp : spotS x.c.vw x.c.ins x.c.sq f
  · have HE := Lib.hid (show certS f n x.c = false by unfold certS; rw [hp]; rfl)
    clear hp
    go_wp2_with fail
    go_ret
    exact ⟨by rw [HE.out]; rfl, HB.out⟩
  · have HP := Lib.hid hp
    clear hp
    have HI1 := Lib.hid (HI.out.reads (Reads.below HB.out (Nat.le_refl _)))
    have KF := Lib.hid (rfew_any (c := x.c1) HI1.out.bt (by have := HS.out.bt; omega) n)
    go_wp2_with fail
    refine KF.out.mono ?_
    rintro e w2 ⟨rfl, hb2⟩
    have HB2 := Lib.hid (HB.out.trans (hb2.mono HB.out.size))
    have hx2 := HX.out.below hb2 HX.out.lt
    have HX2 := Lib.hid hx2
    have d4 : w2.cell? ⟨w.heap.size, 4, none⟩ = some (.slice x.A2 x.c.vs.length x.c2) := hx2.cell 4
    clear hb2 hx2 KF KP
    cases hf : fewS x.c.bt n
    · have HE := Lib.hid (show certS f n x.c = false by unfold certS; rw [hf]; simp)
      clear hf
      go_wp2_with fail
      go_ret
      exact ⟨by rw [HE.out]; rfl, HB2.out⟩
    · have HF := Lib.hid hf
      clear hf
      have HI2 := Lib.hid (HI.out.reads (Reads.below HB2.out (Nat.le_refl _)))
      have KR := Lib.hid (rrising_any (c := x.c2) HI2.out.vs rfl (by have := HS.out.vs; unfold maxLen; omega) f)
      go_wp2_with fail
      refine KR.out.mono ?_
      rintro e w3 ⟨rfl, q0, hw3⟩
      have hb3 : Below w2.heap.size w2 w3 := by rw [hw3]; exact ⟨rfl, rfl, rfl, Nat.le_refl _, fun _ _ => rfl⟩
      clear hw3
      have HB3 := Lib.hid (HB2.out.trans (hb3.mono HB2.out.size))
      have hx3 := HX2.out.below hb3 HX2.out.lt
      have d4' : w3.cell? ⟨w.heap.size, 4, none⟩ = some (.slice x.A2 x.c.vs.length x.c2) := hx3.cell 4
      clear hb3 hx3 KR d4
      cases hr : risingS x.c.vs f
      · have HE := Lib.hid (show certS f n x.c = false by unfold certS; rw [hr]; simp)
        clear hr
        go_wp2_with fail
        go_ret
        exact ⟨by rw [HE.out]; rfl, HB3.out⟩
      · have HE := Lib.hid (show certS f n x.c = sealsS x.c.vs by unfold certS; rw [hr, HF.out, HP.out]; rfl)
        clear hr
        have HI3 := Lib.hid (HI.out.reads (Reads.below HB3.out (Nat.le_refl _)))
        have KS := Lib.hid (rseals_any (c := x.c2) HI3.out.vs (by have := HS.out.vs; omega))
        go_wp2_with fail
        refine KS.out.mono ?_
        rintro e w4 ⟨rfl, q, rfl⟩
        go_wp2_with fail
        go_ret
        exact ⟨by rw [HE.out]; rfl, HB3.out.trans ⟨rfl, rfl, rfl, Nat.le_refl _, fun _ _ => rfl⟩⟩
end Go.Proofs.YtbegjadohamkkaaGreat
/- The contract of ballot.s Rising (without the set). -/
namespace Go.Proofs.YtbegjadohamkkaaGreat
open Go.RowKit

structure RiSt (w : World) (l : List Vt) (f : Int) (k : Nat) (last : Int) (wr : World) : Prop where
  low : Below w.heap.size w wr
  is : risingS l f = risesF (3 * f + 1) last (l.drop k)
theorem RiSt.box {w wr : World} {l : List Vt} {f last : Int} {k : Nat} (h : RiSt w l f k last wr) (cs : Array Value) (t : TypeId) : Below w.heap.size w (wr.alloc (.cells cs t)) := h.low.alloc h.low.size _

set_option maxHeartbeats 2000000 in
theorem rising_any {w : World} {B n c : Nat} {A : Option Addr} {l : List Vt} (hh : Has w B A (voteCells l)) (hn : l.length = n) (hm : n ≤ maxLen) (f : Int) :
    Calls Tryz.prog 64 #[.slice A n c, .int .i64 f] w fun e w' => e = .returned (.bool (risingS l f)) ∧ Below w.heap.size w w' := by
  have HM := Lib.hid hm
  clear hm
  by_cases h1 : f < 1 ∨ 4 < f
  · rw [rising_out (by omega)]
    have HA := Lib.hid (ballow_out h1)
    clear h1 hn
    go_enter Tryz.func64, Tryz.ntmps64
    go_wp2_with fail
    refine (HA.out _).mono ?_
    rintro e w' ⟨rfl, rfl⟩
    go_wp2_with fail
    go_ret
    exact ⟨rfl, Below.refl _ _⟩
  · have h2 : 1 ≤ f := by omega
    have h3 : f ≤ 4 := by omega
    have HA := Lib.hid (ballow_in h2 h3)
    have HN := Lib.hid (bnodes_any f)
    have HQ := Lib.hid (bquorum_any f)
    rw [nodesS_in h2 h3] at HN
    rw [quorumS_in h2 h3] at HQ
    clear h1
    by_cases hl : (n : Int) = 2 * f + 1
    · have HR := Lib.hid (rising_in (l := l) h2 h3 (by rw [hn]; exact hl))
      have HL := Lib.hid hn
      have hl9 : n ≤ 9 := by omega
      have t0 : ((n : Int) != 2 * f + 1) = false := by simp [hl]
      have HE := Lib.hid hl
      have HH := Lib.hid hh.tight
      clear hh hn hl
      go_enter Tryz.func64, Tryz.ntmps64
      go_wp2_with fail
      refine (HA.out _).mono ?_
      rintro e w' ⟨rfl, rfl⟩
      go_wp2_with fail
      refine (HQ.out _).mono ?_
      rintro e w' ⟨rfl, rfl⟩
      go_wp2_with fail
      go_loopw [5, 20] (fun x y wr => ∃ (k : Nat) (last : Int), y = .int .i64 k ∧ x = .int .i64 last ∧ k ≤ n ∧ -1 ≤ last ∧ Hid (RiSt w l f k last wr)) (fun _ y _ => n - (intOf y).toNat)
      case atStart => exact ⟨0, -1, rfl, rfl, Nat.zero_le _, by omega, Below.refl _ _, HR.out⟩
      case round =>
        obtain ⟨k, last, rfl, rfl, hk, hlast, HS⟩ := hrel
        by_cases hlt : k < n
        · have hkl : k < l.length := by rw [HL.out]; exact hlt
          obtain ⟨ad, rfl, _, d0, d1⟩ := vote_at (HH.out.below HS.out.low (Nat.le_refl _)) hkl
          obtain ⟨v, hv⟩ : ∃ v, l[k] = v := ⟨_, rfl⟩
          rw [hv] at d0 d1
          have HDr := Lib.hid (show l.drop k = v :: l.drop (k + 1) by rw [← hv]; exact List.drop_eq_getElem_cons hkl)
          clear hv hkl
          have HB := Lib.hid (HS.out.box #[.int .i64 v.nd, .int .i64 v.sg] 65)
          have HNq := Lib.hid (fun w => (HN.out w).mono (R' := fun e w' => e = .returned (.int .i64 (3 * f + 1)) ∧ w' = w) (fun e w' he => ⟨he.1, he.2.symm⟩))
          by_cases c1 : v.nd ≤ last
          · have HF := Lib.hid (show risingS l f = false by rw [HS.out.is]; exact rises_no HDr.out (by omega))
            have t1 : decide (v.nd ≤ last) = true := decide_eq_true c1
            clear c1
            go_wp2_with fail
            go_quiet ((go_at_call 123; exact Calls.quiet_of_same (HNq.out _)))
            go_wp2_with fail
            go_ret
            rw [HF.out]
            exact ⟨rfl, HB.out.trans ⟨rfl, rfl, rfl, Nat.le_refl _, fun _ _ => rfl⟩⟩
          · have t1 : decide (v.nd ≤ last) = false := decide_eq_false c1
            by_cases c2 : 3 * f + 1 ≤ v.nd
            · have HF := Lib.hid (show risingS l f = false by rw [HS.out.is]; exact rises_no HDr.out (by omega))
              clear c1
              go_wp2_with fail
              go_quiet ((go_at_call 123; exact Calls.quiet_of_same (HNq.out _)))
              go_wp2_with fail
              go_ret
              rw [HF.out]
              exact ⟨rfl, HB.out.trans ⟨rfl, rfl, rfl, Nat.le_refl _, fun _ _ => rfl⟩⟩
            · have HX := Lib.hid (show risingS l f = risesF (3 * f + 1) v.nd (l.drop (k + 1)) by rw [HS.out.is]; exact rises_yes HDr.out rfl (by omega))
              have hnd : -1 ≤ v.nd := by omega
              have t2 : decide (3 * f + 1 ≤ v.nd) = false := decide_eq_false c2
              clear c1 c2
              go_wp2_with fail
              go_quiet ((go_at_call 123; exact Calls.quiet_of_same (HNq.out _)))
              go_wp2_with fail
              go_roundw
              case rel => exact ⟨k + 1, v.nd, by go_num, rfl, by omega, hnd, HB.out.trans ⟨rfl, rfl, rfl, Nat.le_refl _, fun _ _ => rfl⟩, HX.out⟩
              case measure => simp [intOf]; omega
        · have HF := Lib.hid (show risingS l f = true by rw [HS.out.is, List.drop_eq_nil_of_le (by rw [HL.out]; omega)]; rfl)
          go_wp2_with fail
          go_ret
          rw [HF.out]
          exact ⟨rfl, HS.out.low⟩
    · rw [rising_out (by rw [hn]; omega)]
      have t0 : ((n : Int) != 2 * f + 1) = true := by simpa using hl
      clear hn hh hl
      go_enter Tryz.func64, Tryz.ntmps64
      go_wp2_with fail
      refine (HA.out _).mono ?_
      rintro e w' ⟨rfl, rfl⟩
      go_wp2_with fail
      refine (HQ.out _).mono ?_
      rintro e w' ⟨rfl, rfl⟩
      go_wp2_with fail
      go_ret
      exact ⟨rfl, Below.refl _ _⟩
end Go.Proofs.YtbegjadohamkkaaGreat
/- The contracts of package pack's takers of a length and of a request. -/
namespace Go.Proofs.YtbegjadohamkkaaGreat
open Go.RowKit

/-- What a taker of a number answers. -/
def NumTaken (f : Tkr Int) (zs : List Int) (i : Int) (w : World) (e : Ending) (w' : World) : Prop :=
  w = w' ∧ ((∃ (m : Int) (k : Nat), f i = some (m, (k : Int)) ∧ k ≤ zs.length ∧ e = .returned (.tuple #[.int .i64 m, .int .i64 k, .bool true])) ∨
    (f i = none ∧ e = .returned (.tuple #[.int .i64 0, .int .i64 0, .bool false])))
theorem take_num (A : Option Addr) (cap : Nat) (zs : List Int) (B : Nat) (i : Int) (hl : zs.length ≤ 9223372036854775806) (hi : i ≤ 9223372036854775807) (hz : ∀ z ∈ zs, 0 ≤ z ∧ z ≤ 255) (w : World) (hh : Has w B A (u8s zs)) :
    Calls Tryz.prog 56 #[.slice A zs.length cap, .int .i64 i] w (NumTaken (tkNum zs) zs i w) :=
  (take_any A cap zs B i w hl hi hz hh).mono fun e w' ⟨he, hw⟩ => by
    refine ⟨hw, ?_⟩
    rcases tk_cases zs i hz with ⟨h1, h2⟩ | ⟨m, p, q, _, h1, h2, _, h3, _⟩
    · rw [h2] at he
      exact Or.inr ⟨by simp [tkNum, h1], he⟩
    · rw [h2] at he
      exact Or.inl ⟨m, q, by simp [tkNum, h1], h3, he⟩
theorem take_sgn (A : Option Addr) (cap : Nat) (zs : List Int) (B : Nat) (i : Int) (hl : zs.length ≤ 9223372036854775806) (hi : i ≤ 9223372036854775807) (hz : ∀ z ∈ zs, 0 ≤ z ∧ z ≤ 255) (w : World) (hh : Has w B A (u8s zs)) :
    Calls Tryz.prog 144 #[.slice A zs.length cap, .int .i64 i] w (NumTaken (tkSgn zs) zs i w) :=
  (takesigned_any A cap zs B i w hl hi hz hh).mono fun e w' ⟨he, hw⟩ => by
    refine ⟨hw, ?_⟩
    rcases tk_cases zs i hz with ⟨h1, h2⟩ | ⟨m, p, q, _, h1, h2, _, h3, _⟩
    · rw [h2] at he
      exact Or.inr ⟨by simp [tkSgn, h1], he⟩
    · rw [h2] at he
      exact Or.inl ⟨zagS m, q, by simp [tkSgn, h1], h3, he⟩

theorem take_eq {A : Option Addr} {cap : Nat} {zs : List Int} {B : Nat} {i n q : Int} {b : Bool} (h : takeS zs i = (n, q, b)) (hl : zs.length ≤ 9223372036854775806) (hi : i ≤ 9223372036854775807) (hz : ∀ z ∈ zs, 0 ≤ z ∧ z ≤ 255) (w : World) (hh : Has w B A (u8s zs)) :
    Calls Tryz.prog 56 #[.slice A zs.length cap, .int .i64 i] w fun e w' => e = .returned (.tuple #[.int .i64 n, .int .i64 q, .bool b]) ∧ w = w' := by
  have h1 := take_any A cap zs B i w hl hi hz hh
  rw [h] at h1
  exact h1
/-- What takeLength answers. -/
def LenTaken (zs : List Int) (i : Int) (w : World) (e : Ending) (w' : World) : Prop :=
  w = w' ∧ ((∃ (n k : Nat), tkLen zs i = some (n, (k : Int)) ∧ n ≤ 256 ∧ k ≤ zs.length ∧ e = .returned (.tuple #[.int .i64 n, .int .i64 k, .bool true])) ∨
    (tkLen zs i = none ∧ e = .returned (.tuple #[.int .i64 0, .int .i64 0, .bool false])))
set_option maxHeartbeats 400000 in
set_option maxRecDepth 100000 in
theorem take_length (A : Option Addr) (cap : Nat) (zs : List Int) (B : Nat) (i : Int) (hl : zs.length ≤ 9223372036854775806) (hi : i ≤ 9223372036854775807) (hz : ∀ z ∈ zs, 0 ≤ z ∧ z ≤ 255) (w : World) (hh : Has w B A (u8s zs)) :
    Calls Tryz.prog 145 #[.slice A zs.length cap, .int .i64 i] w (LenTaken zs i w) := by
  have HH := Lib.hid hh
  rcases tk_cases zs i hz with ⟨h1, h2⟩ | ⟨m, p, q, rfl, h1, h2, _, h3, h4, _⟩
  · have HC := Lib.hid (fun w h => take_eq (A := A) (B := B) (cap := cap) h2 hl hi hz w h)
    have HR : Hid (LenTaken zs i w (.returned (.tuple #[.int .i64 0, .int .i64 0, .bool false])) w) := ⟨rfl, Or.inr ⟨by simp [tkLen, h1], rfl⟩⟩
    clear h1 h2 hh hz
    go_enter Tryz.func145, Tryz.ntmps145
    go_wp2_with fail
    refine (HC.out _ HH.out).mono ?_
    rintro e w1 ⟨rfl, rfl⟩
    go_wp2_with fail
    go_ret3
    exact HR.out
  · have HC := Lib.hid (fun w h => take_eq (A := A) (B := B) (cap := cap) h2 hl hi hz w h)
    by_cases hm : m ≤ 256
    · have HR : Hid (LenTaken zs p w (.returned (.tuple #[.int .i64 m, .int .i64 q, .bool true])) w) := ⟨rfl, Or.inl ⟨m, q, by simp [tkLen, h1, hm], hm, h3, rfl⟩⟩
      clear h1 h2 hh hz h4
      go_enter Tryz.func145, Tryz.ntmps145
      go_wp2_with fail
      refine (HC.out _ HH.out).mono ?_
      rintro e w1 ⟨rfl, rfl⟩
      go_wp2_with fail
      go_ret3
      exact HR.out
    · have HR : Hid (LenTaken zs p w (.returned (.tuple #[.int .i64 0, .int .i64 0, .bool false])) w) := ⟨rfl, Or.inr ⟨by simp [tkLen, h1, hm], rfl⟩⟩
      have hm2 : 256 < m := by omega
      clear h1 h2 hh hz h4 hm
      go_enter Tryz.func145, Tryz.ntmps145
      go_wp2_with fail
      refine (HC.out _ HH.out).mono ?_
      rintro e w1 ⟨rfl, rfl⟩
      go_wp2_with fail
      go_ret3
      exact HR.out

/-- What TakeReq answers. -/
def ReqTaken (zs : List Int) (i : Int) (w : World) (e : Ending) (w' : World) : Prop :=
  Below w.heap.size w w' ∧ ((∃ (r : Rq) (k : Nat), tkReq zs i = some (r, (k : Int)) ∧ k ≤ zs.length ∧ e = .returned (.tuple #[.agg #[.int .i64 r.cl, .int .i64 r.tm, .int .i64 r.kd, .int .i64 r.ky, .int .i64 r.vl, .int .i64 r.sg], .int .i64 k, .bool true])) ∨
    (tkReq zs i = none ∧ e = .returned (.tuple #[.agg #[.int .i64 0, .int .i64 0, .int .i64 0, .int .i64 0, .int .i64 0, .int .i64 0], .int .i64 0, .bool false])))
/-- The frame of TakeReq at its label. -/
def ReqFrame (B X P : Value) (a : Act) : Prop :=
  ∃ u2 u3 u5 u6 u7 u8 u9 u10 u11 u12 u13 u14 u15 u16 u17 u18 u19 u20 u21 u22 u23 u24 u25 u26 u27 u28 u29 u30 u31 u32 u33 u34 u35 u36 u37 u38 u39 u40 u41 u42 u43 u44 u45 u46 u47 u48 u49 u50 u51 u52 u53 u54 u55 u56 u57 u58 u59 u60 u61 u62 u63 u64 u65 u66 u67 u68 u69 u70 u71 u72 : Value, a = { tmps := #[B, X, u2, u3, P, u5, u6, u7, u8, u9, u10, u11, u12, u13, u14, u15, u16, u17, u18, u19, u20, u21, u22, u23, u24, u25, u26, u27, u28, u29, u30, u31, u32, u33, u34, u35, u36, u37, u38, u39, u40, u41, u42, u43, u44, u45, u46, u47, u48, u49, u50, u51, u52, u53, u54, u55, u56, u57, u58, u59, u60, u61, u62, u63, u64, u65, u66, u67, u68, u69, u70, u71, u72], defers := [] }
set_option maxHeartbeats 1000000 in
set_option maxRecDepth 100000 in
theorem take_req (A : Option Addr) (cap : Nat) (zs : List Int) (B : Nat) (i : Int) (hl : zs.length ≤ 9223372036854775806) (hi : i ≤ 9223372036854775807) (hz : ∀ z ∈ zs, 0 ≤ z ∧ z ≤ 255) (w : World) (hB : B ≤ w.heap.size) (hh : Has w B A (u8s zs)) :
    Calls Tryz.prog 146 #[.slice A zs.length cap, .int .i64 i] w (ReqTaken zs i w) := by
  have HZ := Lib.hid hz
  have HH := Lib.hid hh
  have HA := Lib.hid (fun cs => hh.below ((Below.refl B w).alloc hB (.cells cs 69)) (Nat.le_refl _))
  have HN := Lib.hid (fun (i : Int) (hi : i ≤ 9223372036854775807) w h => take_num A cap zs B i hl hi hz w h)
  have HS := Lib.hid (fun (i : Int) (hi : i ≤ 9223372036854775807) w h => take_sgn A cap zs B i hl hi hz w h)
  clear hz hh
  go_enter Tryz.func146, Tryz.ntmps146
  go_wp2
  refine wp_scope_labels (fun l a' w' => l = 0 ∧ tkReq zs i = none ∧ ReqFrame (.slice A zs.length cap) (.int .i64 i) (.pointer (some ⟨w.heap.size, 0, none⟩)) a' ∧ ∃ c0 c1 c2 c3 c4 c5 : Int, w' = w.alloc (.cells #[.int .i64 c0, .int .i64 c1, .int .i64 c2, .int .i64 c3, .int .i64 c4, .int .i64 c5] 69)) (fun l a' w' => 0) ?_ ?_
  · go_wp2_with fail
    refine (HN.out i hi _ (HA.out _)).mono ?_
    rintro e w1 ⟨rfl, ⟨m0, k0, h1, hk0, rfl⟩ | ⟨h1, rfl⟩⟩
    · have H0 := Lib.hid h1
      clear h1
      go_wp2_with fail
      refine (HN.out k0 (by omega) _ (HA.out _)).mono ?_
      rintro e w1 ⟨rfl, ⟨m1, k1, h1, hk1, rfl⟩ | ⟨h1, rfl⟩⟩
      · have H1 := Lib.hid h1
        clear h1
        go_wp2_with fail
        refine (HN.out k1 (by omega) _ (HA.out _)).mono ?_
        rintro e w1 ⟨rfl, ⟨m2, k2, h1, hk2, rfl⟩ | ⟨h1, rfl⟩⟩
        · have H2 := Lib.hid h1
          clear h1
          go_wp2_with fail
          refine (HS.out k2 (by omega) _ (HA.out _)).mono ?_
          rintro e w1 ⟨rfl, ⟨m3, k3, h1, hk3, rfl⟩ | ⟨h1, rfl⟩⟩
          · have H3 := Lib.hid h1
            clear h1
            go_wp2_with fail
            refine (HS.out k3 (by omega) _ (HA.out _)).mono ?_
            rintro e w1 ⟨rfl, ⟨m4, k4, h1, hk4, rfl⟩ | ⟨h1, rfl⟩⟩
            · have H4 := Lib.hid h1
              clear h1
              go_wp2_with fail
              refine (HN.out k4 (by omega) _ (HA.out _)).mono ?_
              rintro e w1 ⟨rfl, ⟨m5, k5, h1, hk5, rfl⟩ | ⟨h1, rfl⟩⟩
              · have H5 := Lib.hid h1
                clear h1
                have HR : Hid (tkReq zs i = some (⟨m0, m1, m2, m3, m4, m5⟩, (k5 : Int))) := by simp [Hid, tkReq, H0.out, H1.out, H2.out, H3.out, H4.out, H5.out]
                go_wp2
                exact bodyPost_ret (v := .tuple #[.agg #[.int .i64 m0, .int .i64 m1, .int .i64 m2, .int .i64 m3, .int .i64 m4, .int .i64 m5], .int .i64 k5, .bool true]) (by simp [results, Tryz.results146, go_sem]) rfl ⟨(Below.refl _ w).alloc (Nat.le_refl _) _, Or.inl ⟨_, k5, HR.out, hk5, rfl⟩⟩
              · have HF := Lib.hid (show tkReq zs i = none by simp [tkReq, H0.out, H1.out, H2.out, H3.out, H4.out, h1])
                clear h1
                go_wp2
                go_step3
                go_wp2
                exact ⟨rfl, HF.out, ⟨_, _, _, _, _, _, _, _, _, _, _, _, _, _, _, _, _, _, _, _, _, _, _, _, _, _, _, _, _, _, _, _, _, _, _, _, _, _, _, _, _, _, _, _, _, _, _, _, _, _, _, _, _, _, _, _, _, _, _, _, _, _, _, _, _, _, _, _, _, _, rfl⟩, _, _, _, _, _, _, rfl⟩
            · have HF := Lib.hid (show tkReq zs i = none by simp [tkReq, H0.out, H1.out, H2.out, H3.out, h1])
              clear h1
              go_wp2
              go_step3
              go_wp2
              exact ⟨rfl, HF.out, ⟨_, _, _, _, _, _, _, _, _, _, _, _, _, _, _, _, _, _, _, _, _, _, _, _, _, _, _, _, _, _, _, _, _, _, _, _, _, _, _, _, _, _, _, _, _, _, _, _, _, _, _, _, _, _, _, _, _, _, _, _, _, _, _, _, _, _, _, _, _, _, rfl⟩, _, _, _, _, _, _, rfl⟩
          · have HF := Lib.hid (show tkReq zs i = none by simp [tkReq, H0.out, H1.out, H2.out, h1])
            clear h1
            go_wp2
            go_step3
            go_wp2
            exact ⟨rfl, HF.out, ⟨_, _, _, _, _, _, _, _, _, _, _, _, _, _, _, _, _, _, _, _, _, _, _, _, _, _, _, _, _, _, _, _, _, _, _, _, _, _, _, _, _, _, _, _, _, _, _, _, _, _, _, _, _, _, _, _, _, _, _, _, _, _, _, _, _, _, _, _, _, _, rfl⟩, _, _, _, _, _, _, rfl⟩
        · have HF := Lib.hid (show tkReq zs i = none by simp [tkReq, H0.out, H1.out, h1])
          clear h1
          go_wp2
          go_step3
          go_wp2
          exact ⟨rfl, HF.out, ⟨_, _, _, _, _, _, _, _, _, _, _, _, _, _, _, _, _, _, _, _, _, _, _, _, _, _, _, _, _, _, _, _, _, _, _, _, _, _, _, _, _, _, _, _, _, _, _, _, _, _, _, _, _, _, _, _, _, _, _, _, _, _, _, _, _, _, _, _, _, _, rfl⟩, _, _, _, _, _, _, rfl⟩
      · have HF := Lib.hid (show tkReq zs i = none by simp [tkReq, H0.out, h1])
        clear h1
        go_wp2
        go_step3
        go_wp2
        exact ⟨rfl, HF.out, ⟨_, _, _, _, _, _, _, _, _, _, _, _, _, _, _, _, _, _, _, _, _, _, _, _, _, _, _, _, _, _, _, _, _, _, _, _, _, _, _, _, _, _, _, _, _, _, _, _, _, _, _, _, _, _, _, _, _, _, _, _, _, _, _, _, _, _, _, _, _, _, rfl⟩, _, _, _, _, _, _, rfl⟩
    · have HF := Lib.hid (show tkReq zs i = none by simp [tkReq, h1])
      clear h1
      go_wp2
      go_step3
      go_wp2
      exact ⟨rfl, HF.out, ⟨_, _, _, _, _, _, _, _, _, _, _, _, _, _, _, _, _, _, _, _, _, _, _, _, _, _, _, _, _, _, _, _, _, _, _, _, _, _, _, _, _, _, _, _, _, _, _, _, _, _, _, _, _, _, _, _, _, _, _, _, _, _, _, _, _, _, _, _, _, _, rfl⟩, _, _, _, _, _, _, rfl⟩
  · rintro l a' w' ⟨rfl, hr, ⟨u2, u3, u5, u6, u7, u8, u9, u10, u11, u12, u13, u14, u15, u16, u17, u18, u19, u20, u21, u22, u23, u24, u25, u26, u27, u28, u29, u30, u31, u32, u33, u34, u35, u36, u37, u38, u39, u40, u41, u42, u43, u44, u45, u46, u47, u48, u49, u50, u51, u52, u53, u54, u55, u56, u57, u58, u59, u60, u61, u62, u63, u64, u65, u66, u67, u68, u69, u70, u71, u72, rfl⟩, c0, c1, c2, c3, c4, c5, rfl⟩
    refine ⟨_, rfl, ?_⟩
    have HR := Lib.hid hr
    clear hr
    go_wp2
    exact bodyPost_ret (v := .tuple #[.agg #[.int .i64 0, .int .i64 0, .int .i64 0, .int .i64 0, .int .i64 0, .int .i64 0], .int .i64 0, .bool false]) (by simp [results, Tryz.results146, go_sem]) rfl ⟨(Below.refl _ w).alloc (Nat.le_refl _) _, Or.inr ⟨HR.out, rfl⟩⟩
end Go.Proofs.YtbegjadohamkkaaGreat
/- The contract of msgs.takeNumbers: the numbers ahead of a message's lists. -/
namespace Go.Proofs.YtbegjadohamkkaaGreat
open Go.RowKit

def tkHead (zs : List Int) : Option (Mg × Int) :=
  (tkNum zs 0).bind fun a => (tkNum zs a.2).bind fun b => (tkNum zs b.2).bind fun c => (tkNum zs c.2).bind fun d => (tkNum zs d.2).bind fun e => (tkSgn zs e.2).bind fun f =>
    some (⟨a.1, b.1, c.1, d.1, e.1, f.1, [], [], [], []⟩, f.2)
theorem tkMsg_head (zs : List Int) : tkMsg zs 0 = (tkHead zs).bind fun f => (tkBatch zs f.2).bind fun g => (tkVotes zs g.2).bind fun h => (tkCerts zs h.2).bind fun k => (tkParts zs k.2).bind fun l =>
    some ({ f.1 with bt := g.1, vs := h.1, cs := k.1, ps := l.1 }, l.2) := by
  simp [tkMsg, tkHead, Option.bind_assoc]
/-- What takeNumbers answers. -/
def HeadTaken (zs : List Int) (w : World) (e : Ending) (w' : World) : Prop :=
  Below w.heap.size w w' ∧ ((∃ (m : Mg) (k : Nat), tkHead zs = some (m, (k : Int)) ∧ k ≤ zs.length ∧ m.bt = [] ∧ m.vs = [] ∧ m.cs = [] ∧ m.ps = [] ∧ e = .returned (.tuple #[.agg #[.int .i64 m.kd, .int .i64 m.fr, .int .i64 m.vw, .int .i64 m.ins, .int .i64 m.sq, .int .i64 m.rs, .slice none 0 0, .slice none 0 0, .slice none 0 0, .slice none 0 0], .int .i64 k, .bool true])) ∨
    (tkHead zs = none ∧ e = .returned (.tuple #[.agg #[.int .i64 0, .int .i64 0, .int .i64 0, .int .i64 0, .int .i64 0, .int .i64 0, .slice none 0 0, .slice none 0 0, .slice none 0 0, .slice none 0 0], .int .i64 0, .bool false])))
set_option maxHeartbeats 4000000 in
set_option maxRecDepth 100000 in
theorem take_head (A : Option Addr) (cap : Nat) (zs : List Int) (B : Nat) (hl : zs.length ≤ 9223372036854775806) (hz : ∀ z ∈ zs, 0 ≤ z ∧ z ≤ 255) (w : World) (hB : B ≤ w.heap.size) (hh : Has w B A (u8s zs)) :
    Calls Tryz.prog 99 #[.slice A zs.length cap] w (HeadTaken zs w) := by
  have HA := Lib.hid (fun cs => hh.below ((Below.refl B w).alloc hB (.cells cs 38)) (Nat.le_refl _))
  have HN := Lib.hid (fun (i : Int) (hi : i ≤ 9223372036854775807) w h => take_num A cap zs B i hl hi hz w h)
  have HS := Lib.hid (fun (i : Int) (hi : i ≤ 9223372036854775807) w h => take_sgn A cap zs B i hl hi hz w h)
  clear hz hh
  go_enter Tryz.func99, Tryz.ntmps99
  go_wp2
  refine wp_scope_hops 8 (fun F HF => ?_)
  go_wp2_with fail
  refine (HN.out 0 (by omega) _ (HA.out _)).mono ?_
  rintro e w1 ⟨rfl, ⟨m0, k0, h1, hk0, rfl⟩ | ⟨h1, rfl⟩⟩
  case inr =>
    have HR := Lib.hid (show tkHead zs = none by simp [tkHead, h1])
    clear h1
    go_wp2
    go_step3
    go_wp2
    refine ⟨_, by rw [HF.out]; rfl, ?_⟩
    go_wp2
    exact bodyPost_ret (v := .tuple #[.agg #[.int .i64 0, .int .i64 0, .int .i64 0, .int .i64 0, .int .i64 0, .int .i64 0, .slice none 0 0, .slice none 0 0, .slice none 0 0, .slice none 0 0], .int .i64 0, .bool false]) (by simp [results, Tryz.results99, go_sem]) rfl ⟨(Below.refl _ w).alloc (Nat.le_refl _) _, Or.inr ⟨HR.out, rfl⟩⟩
  have H0 := Lib.hid h1
  clear h1
  go_wp2
  go_step3
  go_wp2
  refine ⟨_, by rw [HF.out]; rfl, ?_⟩
  go_wp2_with fail
  refine (HN.out k0 (by omega) _ (HA.out _)).mono ?_
  rintro e w1 ⟨rfl, ⟨m1, k1, h1, hk1, rfl⟩ | ⟨h1, rfl⟩⟩
  case inr =>
    have HR := Lib.hid (show tkHead zs = none by simp [tkHead, H0.out, h1])
    clear h1
    go_wp2
    go_step3
    go_wp2
    refine ⟨_, by rw [HF.out]; rfl, ?_⟩
    go_wp2
    exact bodyPost_ret (v := .tuple #[.agg #[.int .i64 0, .int .i64 0, .int .i64 0, .int .i64 0, .int .i64 0, .int .i64 0, .slice none 0 0, .slice none 0 0, .slice none 0 0, .slice none 0 0], .int .i64 0, .bool false]) (by simp [results, Tryz.results99, go_sem]) rfl ⟨(Below.refl _ w).alloc (Nat.le_refl _) _, Or.inr ⟨HR.out, rfl⟩⟩
  have H1 := Lib.hid h1
  clear h1
  go_wp2
  go_step3
  go_wp2
  refine ⟨_, by rw [HF.out]; rfl, ?_⟩
  go_wp2_with fail
  refine (HN.out k1 (by omega) _ (HA.out _)).mono ?_
  rintro e w1 ⟨rfl, ⟨m2, k2, h1, hk2, rfl⟩ | ⟨h1, rfl⟩⟩
  case inr =>
    have HR := Lib.hid (show tkHead zs = none by simp [tkHead, H0.out, H1.out, h1])
    clear h1
    go_wp2
    go_step3
    go_wp2
    refine ⟨_, by rw [HF.out]; rfl, ?_⟩
    go_wp2
    exact bodyPost_ret (v := .tuple #[.agg #[.int .i64 0, .int .i64 0, .int .i64 0, .int .i64 0, .int .i64 0, .int .i64 0, .slice none 0 0, .slice none 0 0, .slice none 0 0, .slice none 0 0], .int .i64 0, .bool false]) (by simp [results, Tryz.results99, go_sem]) rfl ⟨(Below.refl _ w).alloc (Nat.le_refl _) _, Or.inr ⟨HR.out, rfl⟩⟩
  have H2 := Lib.hid h1
  clear h1
  go_wp2
  go_step3
  go_wp2
  refine ⟨_, by rw [HF.out]; rfl, ?_⟩
  go_wp2_with fail
  refine (HN.out k2 (by omega) _ (HA.out _)).mono ?_
  rintro e w1 ⟨rfl, ⟨m3, k3, h1, hk3, rfl⟩ | ⟨h1, rfl⟩⟩
  case inr =>
    have HR := Lib.hid (show tkHead zs = none by simp [tkHead, H0.out, H1.out, H2.out, h1])
    clear h1
    go_wp2
    go_step3
    go_wp2
    refine ⟨_, by rw [HF.out]; rfl, ?_⟩
    go_wp2
    exact bodyPost_ret (v := .tuple #[.agg #[.int .i64 0, .int .i64 0, .int .i64 0, .int .i64 0, .int .i64 0, .int .i64 0, .slice none 0 0, .slice none 0 0, .slice none 0 0, .slice none 0 0], .int .i64 0, .bool false]) (by simp [results, Tryz.results99, go_sem]) rfl ⟨(Below.refl _ w).alloc (Nat.le_refl _) _, Or.inr ⟨HR.out, rfl⟩⟩
  have H3 := Lib.hid h1
  clear h1
  go_wp2
  go_step3
  go_wp2
  refine ⟨_, by rw [HF.out]; rfl, ?_⟩
  go_wp2_with fail
  refine (HN.out k3 (by omega) _ (HA.out _)).mono ?_
  rintro e w1 ⟨rfl, ⟨m4, k4, h1, hk4, rfl⟩ | ⟨h1, rfl⟩⟩
  case inr =>
    have HR := Lib.hid (show tkHead zs = none by simp [tkHead, H0.out, H1.out, H2.out, H3.out, h1])
    clear h1
    go_wp2
    go_step3
    go_wp2
    refine ⟨_, by rw [HF.out]; rfl, ?_⟩
    go_wp2
    exact bodyPost_ret (v := .tuple #[.agg #[.int .i64 0, .int .i64 0, .int .i64 0, .int .i64 0, .int .i64 0, .int .i64 0, .slice none 0 0, .slice none 0 0, .slice none 0 0, .slice none 0 0], .int .i64 0, .bool false]) (by simp [results, Tryz.results99, go_sem]) rfl ⟨(Below.refl _ w).alloc (Nat.le_refl _) _, Or.inr ⟨HR.out, rfl⟩⟩
  have H4 := Lib.hid h1
  clear h1
  go_wp2
  go_step3
  go_wp2
  refine ⟨_, by rw [HF.out]; rfl, ?_⟩
  go_wp2_with fail
  refine (HS.out k4 (by omega) _ (HA.out _)).mono ?_
  rintro e w1 ⟨rfl, ⟨m5, k5, h1, hk5, rfl⟩ | ⟨h1, rfl⟩⟩
  case inr =>
    have HR := Lib.hid (show tkHead zs = none by simp [tkHead, H0.out, H1.out, H2.out, H3.out, H4.out, h1])
    clear h1
    go_wp2
    go_step3
    go_wp2
    exact bodyPost_ret (v := .tuple #[.agg #[.int .i64 0, .int .i64 0, .int .i64 0, .int .i64 0, .int .i64 0, .int .i64 0, .slice none 0 0, .slice none 0 0, .slice none 0 0, .slice none 0 0], .int .i64 0, .bool false]) (by simp [results, Tryz.results99, go_sem]) rfl ⟨(Below.refl _ w).alloc (Nat.le_refl _) _, Or.inr ⟨HR.out, rfl⟩⟩
  have H5 := Lib.hid h1
  clear h1
  have HR := Lib.hid (show tkHead zs = some (⟨m0, m1, m2, m3, m4, m5, [], [], [], []⟩, (k5 : Int)) by simp [tkHead, H0.out, H1.out, H2.out, H3.out, H4.out, H5.out])
  go_wp2
  exact bodyPost_ret (v := .tuple #[.agg #[.int .i64 m0, .int .i64 m1, .int .i64 m2, .int .i64 m3, .int .i64 m4, .int .i64 m5, .slice none 0 0, .slice none 0 0, .slice none 0 0, .slice none 0 0], .int .i64 k5, .bool true]) (by simp [results, Tryz.results99, go_sem]) rfl ⟨(Below.refl _ w).alloc (Nat.le_refl _) _, Or.inl ⟨_, k5, HR.out, hk5, rfl, rfl, rfl, rfl, rfl⟩⟩
end Go.Proofs.YtbegjadohamkkaaGreat
/- The contract of pack.TakeVotes. -/
namespace Go.Proofs.YtbegjadohamkkaaGreat
open Go.RowKit

theorem own_base {w : World} {b b' n s : Nat} {e : TypeId} {v : Value} {xs : List Value} (h : w.ownsRow b e s v n xs) (hb : b' ≤ b) : w.ownsRow b' e s v n xs := by
  refine ⟨h.1, ?_⟩
  rcases h.2 with h2 | ⟨g, cap, cur, hv, hg, r⟩
  · exact Or.inl h2
  · exact Or.inr ⟨g, cap, cur, hv, by omega, r⟩
theorem own_blk_lt {w : World} {b n s g : Nat} {e : TypeId} {v : Value} {xs : List Value} (h : w.ownsRow b e s v n xs) (hg : g < b) : v.ownBlock ≠ some g := fun he => by
  have := (h.lt g he).1
  omega
/-- What stands still to be taken at a list's next thing, behind what has been taken. -/
def restOf {α : Type} (f : Tkr α) (done : List α) (n : Nat) (j : Int) : Option (List α × Int) := match tkMany f n j with
  | some (l, k) => some (done ++ l, k)
  | none => none
theorem restOf_zero {α : Type} (f : Tkr α) (done : List α) (j : Int) : restOf f done 0 j = some (done, j) := by simp [restOf, tkMany]
theorem restOf_some {α : Type} {f : Tkr α} {done : List α} {n : Nat} {j k : Int} {x : α} (h : f j = some (x, k)) : restOf f done (n + 1) j = restOf f (done ++ [x]) n k := by
  simp only [restOf, tkMany, h]
  cases tkMany f n k with
  | none => rfl
  | some p => simp
theorem restOf_none {α : Type} {f : Tkr α} {done : List α} {n : Nat} {j : Int} (h : f j = none) : restOf f done (n + 1) j = none := by simp [restOf, tkMany, h]
theorem list_rest {α : Type} {f : Tkr α} {zs : List Int} {i k : Int} {n : Nat} (h : tkLen zs i = some (n, k)) : tkList zs f i = restOf f [] n k := by
  simp only [tkList, h, restOf]
  cases tkMany f n k with
  | none => rfl
  | some p => simp
theorem Tryz.info65 : (Tryz.prog.info? 65).map (fun i => (i.zero, i.size, i.bytes)) = some (some (.agg #[.int .i64 0, .int .i64 0]), 2, 16) := by kernel_rfl

/-- What TakeVotes answers. -/
def VotesTaken (zs : List Int) (i : Int) (w : World) (e : Ending) (w' : World) : Prop :=
  Below w.heap.size w w' ∧ ((∃ (l : List Vt) (k : Nat) (A : Option Addr) (c : Nat), tkVotes zs i = some (l, (k : Int)) ∧ k ≤ zs.length ∧ l.length ≤ 256 ∧ e = .returned (.tuple #[.slice A l.length c, .int .i64 k, .bool true]) ∧
      w'.ownsRow w.heap.size 65 2 (.slice A l.length c) l.length (voteCells l)) ∨
    (tkVotes zs i = none ∧ e = .returned (.tuple #[.slice none 0 0, .int .i64 0, .bool false])))
/-- The frame of TakeVotes. -/
def VotesFrame (B X L nx left p : Value) (a : Act) : Prop :=
  ∃ u2 u3 u6 u9 u10 u11 u12 u13 u14 u15 u16 u17 u18 u19 u20 u21 u22 u23 u24 u25 u26 u27 u28 u29 u30 u31 u32 u33 u34 u35 u36 u37 u38 u39 u40 u41 u42 u43 u44 u45 u46 u47 : Value, a = { tmps := #[B, X, u2, u3, L, nx, u6, left, p, u9, u10, u11, u12, u13, u14, u15, u16, u17, u18, u19, u20, u21, u22, u23, u24, u25, u26, u27, u28, u29, u30, u31, u32, u33, u34, u35, u36, u37, u38, u39, u40, u41, u42, u43, u44, u45, u46, u47], defers := [] }

/-- What holds at each label: 0: nothing is taken; 1: all are taken; 2: at the next vote. -/
def VotesAt (X0 : Value) (i : Int) (zs : List Int) (w : World) (l : Nat) (a : Act) (w' : World) : Prop :=
  ∃ (L : Value) (nx : Nat) (left : Int) (done : List Vt) (c0 c1 : Int), VotesFrame X0 (.int .i64 i) L (.int .i64 nx) (.int .i64 left) (.pointer (some ⟨w.heap.size, 0, none⟩)) a ∧ Below w.heap.size w w' ∧ nx ≤ zs.length ∧
    Blk w' w.heap.size 65 #[.int .i64 c0, .int .i64 c1] ∧ w'.ownsRow (w.heap.size + 1) 65 2 L done.length (voteCells done) ∧
    ((l = 0 ∧ tkVotes zs i = none) ∨ (l = 1 ∧ tkVotes zs i = some (done, (nx : Int)) ∧ done.length ≤ 256) ∨ (l = 2 ∧ ∃ n : Nat, left = n ∧ done.length + n ≤ 256 ∧ tkVotes zs i = restOf (tkVote zs) done n nx))
/-- One vote more. -/
theorem votes_more {w2 : World} {b : Nat} {done : List Vt} {v : Vt} {L2 : Value} (h : w2.ownsRow b 65 2 L2 (done.length + 1) (voteCells done ++ [.int .i64 v.nd, .int .i64 v.sg])) :
    w2.ownsRow b 65 2 L2 (done ++ [v]).length (voteCells (done ++ [v])) := by
  have e : voteCells (done ++ [v]) = voteCells done ++ [.int .i64 v.nd, .int .i64 v.sg] := by simp [voteCells, Vt.cells]
  rw [e, List.length_append]
  exact h

set_option maxHeartbeats 2000000 in
set_option maxRecDepth 100000 in
theorem take_votes (A : Option Addr) (cap : Nat) (zs : List Int) (B : Nat) (i : Int) (hl : zs.length ≤ 9223372036854775806) (hi : i ≤ 9223372036854775807) (hz : ∀ z ∈ zs, 0 ≤ z ∧ z ≤ 255) (w : World) (hB : B ≤ w.heap.size) (hh : Has w B A (u8s zs)) :
    Calls Tryz.prog 101 #[.slice A zs.length cap, .int .i64 i] w (VotesTaken zs i w) := by
  obtain ⟨i0, hinf, hy0, hy1, hy2⟩ := info_parts Tryz.info65
  have HH := Lib.hid (hh.more hB)
  have HN := Lib.hid (fun (i : Int) (hi : i ≤ 9223372036854775807) w B h => take_num A cap zs B i hl hi hz w h)
  have HL := Lib.hid (fun w B h => take_length A cap zs B i hl hi hz w h)
  clear hz hh
  go_enter Tryz.func101, Tryz.ntmps101
  go_wp2
  refine wp_scope_fall (VotesAt (.slice A zs.length cap) i zs w) (fun l a' _ => if l = 2 then (intOf (a'.tmps.getD 7 undef)).toNat + 1 else 0) ?_ ?_
  · rintro l a' w' ⟨L, nx, left, done, c0, c1, ⟨u2, u3, u6, u9, u10, u11, u12, u13, u14, u15, u16, u17, u18, u19, u20, u21, u22, u23, u24, u25, u26, u27, u28, u29, u30, u31, u32, u33, u34, u35, u36, u37, u38, u39, u40, u41, u42, u43, u44, u45, u46, u47, rfl⟩, hb, hnx, hblk, hown, hl3⟩
    have hbs := hb.size
    rcases hl3 with ⟨rfl, hr⟩ | ⟨rfl, hr, hd⟩ | ⟨rfl, n, rfl, hn, hr⟩
    · refine ⟨_, rfl, ?_⟩
      have HR : Hid (VotesTaken zs i w (.returned (.tuple #[.slice none 0 0, .int .i64 0, .bool false])) w') := ⟨hb, Or.inr ⟨hr, rfl⟩⟩
      clear hr
      go_wp2
      go_ret3
      exact HR.out
    · refine ⟨_, rfl, ?_⟩
      obtain ⟨A2, c2, rfl, _, _⟩ := own_slice hown
      have HR : Hid (VotesTaken zs i w (.returned (.tuple #[.slice A2 done.length c2, .int .i64 nx, .bool true])) w') := ⟨hb, Or.inl ⟨done, nx, A2, c2, hr, hnx, hd, rfl, own_base hown (Nat.le_succ _)⟩⟩
      clear hr hown hblk
      go_wp2
      go_ret3
      exact HR.out
    · refine ⟨_, rfl, ?_⟩
      have HR := Lib.hid hr
      have HO := Lib.hid hown
      have HBl := Lib.hid hblk
      have HB0 := Lib.hid hb
      have hh1 := HH.out.below hb (Nat.le_refl _)
      have hh2 := fun v => HH.out.below (hb.setCell (p := ⟨w.heap.size, 0, none⟩) (Nat.le_refl _) v) (Nat.le_refl _)
      have HH1 := Lib.hid hh1
      have HH2 := Lib.hid hh2
      have ce0 : w'.cell? ⟨w.heap.size, 0, none⟩ = some (.int .i64 c0) := hblk.cell 0
      have ce1 : w'.cell? ⟨w.heap.size, 1, none⟩ = some (.int .i64 c1) := hblk.cell 1
      have fr0 := hblk.frozen 0
      have fr1 := hblk.frozen 1
      have hlt := hblk.lt
      clear hr hown hblk hh1 hh2
      cases n with
      | zero =>
        rw [restOf_zero] at HR
        go_wp2
        go_step3
        go_wp2
        exact ⟨L, nx, _, done, c0, c1, ⟨_, _, _, _, _, _, _, _, _, _, _, _, _, _, _, _, _, _, _, _, _, _, _, _, _, _, _, _, _, _, _, _, _, _, _, _, _, _, _, _, _, _, rfl⟩, hb, hnx, HBl.out, HO.out, Or.inr (Or.inl ⟨rfl, HR.out, by omega⟩)⟩
      | succ n =>
        have hne : (((n + 1 : Nat) : Int) == 0) = false := by simp; omega
        go_wp2_with fail
        refine (HN.out nx (by omega) _ _ HH1.out).mono ?_
        rintro e w1 ⟨rfl, ⟨m0, k0, h1, hk0, rfl⟩ | ⟨h1, rfl⟩⟩
        · have H0 := Lib.hid h1
          clear h1
          go_wp2_with fail
          refine (HN.out k0 (by omega) _ _ (HH2.out _)).mono ?_
          rintro e w1 ⟨rfl, ⟨m1, k1, h1, hk1, rfl⟩ | ⟨h1, rfl⟩⟩
          · have H1 := Lib.hid h1
            clear h1
            have HF : Hid (tkVotes zs i = restOf (tkVote zs) (done ++ [⟨m0, m1⟩]) n k1) := HR.out.trans (restOf_some (by simp [tkVote, H0.out, H1.out]))
            have HB2 := Lib.hid (show Blk _ w.heap.size 65 #[.int .i64 m0, .int .i64 m1] from (HBl.out.set_ 0 (.int .i64 m0)).set_ 1 (.int .i64 m1))
            have HO2 := Lib.hid (own_far (own_far HO.out (p := ⟨w.heap.size, 0, none⟩) (own_blk_lt HO.out (Nat.lt_succ_self _)) (.int .i64 m0)) (p := ⟨w.heap.size, 1, none⟩) (own_blk_lt HO.out (Nat.lt_succ_self _)) (.int .i64 m1))
            have HBl2 := Lib.hid ((hb.setCell (p := ⟨w.heap.size, 0, none⟩) (Nat.le_refl _) (.int .i64 m0)).setCell (p := ⟨w.heap.size, 1, none⟩) (Nat.le_refl _) (.int .i64 m1))
            go_wp2_with (at_builtin; refine wpList_append_own _ rfl (.tmp 42) (.tmp 44) 23 rfl (w.heap.size + 1) 65 i0 _ 2 16 Tryz.underlying23 hinf hy0 hy1 hy2 rfl (by decide) _ _ _ rfl (HO2.out.alloc _) ⟨w'.heap.size, 0, none⟩ 1 1 [.int .i64 m0, .int .i64 m1] rfl rfl ?c1 ?c2 ?c3 ?c4 ?c5 ?_)
            case c1 => exact World.news_of_block (cs := #[.int .i64 m0, .int .i64 m1]) (by simpa using heap_alloc_new ((w'.setCell ⟨w.heap.size, 0, none⟩ (.int .i64 m0)).setCell ⟨w.heap.size, 1, none⟩ (.int .i64 m1)) (.cells #[.int .i64 m0, .int .i64 m1] 65))
            case c2 => intro u hu; simp at hu; rcases hu with rfl | rfl <;> rfl
            case c3 => unfold maxLen; omega
            case c4 => omega
            case c5 => simp; omega
            intro L2 w3 ho3 hg3 _
            have HO3 := Lib.hid (votes_more (v := ⟨m0, m1⟩) ho3)
            have HB3 := Lib.hid ((HB2.out.alloc (.cells #[.int .i64 m0, .int .i64 m1] 65)).grown hg3 (fun he => own_blk_lt HO2.out (Nat.lt_succ_self _) he.symm))
            have hb3 := ((HBl2.out.alloc (by simp; omega) (.cells #[.int .i64 m0, .int .i64 m1] 65)).grown hg3 (by simp; omega) (fun k hk => by have := (HO2.out.lt k hk).1; omega))
            clear ho3 hg3 ce0 ce1 fr0 fr1
            go_wp2
            go_step3
            go_wp2
            exact ⟨⟨L2, k1, n, done ++ [⟨m0, m1⟩], m0, m1, ⟨_, _, _, _, _, _, _, _, _, _, _, _, _, _, _, _, _, _, _, _, _, _, _, _, _, _, _, _, _, _, _, _, _, _, _, _, _, _, _, _, _, _, rfl⟩, hb3, hk1, HB3.out, HO3.out, Or.inr (Or.inr ⟨rfl, n, rfl, by simp; omega, HF.out⟩)⟩, by simp [intOf]; omega⟩
          · have HF : Hid (tkVotes zs i = none) := HR.out.trans (restOf_none (by simp [tkVote, H0.out, h1]))
            clear h1
            have HB2 := Lib.hid ((HBl.out.set_ 0 (.int .i64 m0)).set_ 1 (.int .i64 0))
            have HO2 := Lib.hid (own_far (own_far HO.out (p := ⟨w.heap.size, 0, none⟩) (own_blk_lt HO.out (Nat.lt_succ_self _)) (.int .i64 m0)) (p := ⟨w.heap.size, 1, none⟩) (own_blk_lt HO.out (Nat.lt_succ_self _)) (.int .i64 0))
            have HBl2 := Lib.hid ((hb.setCell (p := ⟨w.heap.size, 0, none⟩) (Nat.le_refl _) (.int .i64 m0)).setCell (p := ⟨w.heap.size, 1, none⟩) (Nat.le_refl _) (.int .i64 0))
            go_wp2
            go_step3
            go_wp2
            exact ⟨L, 0, _, done, m0, 0, ⟨_, _, _, _, _, _, _, _, _, _, _, _, _, _, _, _, _, _, _, _, _, _, _, _, _, _, _, _, _, _, _, _, _, _, _, _, _, _, _, _, _, _, rfl⟩, HBl2.out, Nat.zero_le _, HB2.out, HO2.out, Or.inl ⟨rfl, HF.out⟩⟩
        · have HF : Hid (tkVotes zs i = none) := HR.out.trans (restOf_none (by simp [tkVote, h1]))
          clear h1
          have HB2 := Lib.hid (HBl.out.set_ 0 (.int .i64 0))
          have HO2 := Lib.hid (own_far HO.out (p := ⟨w.heap.size, 0, none⟩) (own_blk_lt HO.out (Nat.lt_succ_self _)) (.int .i64 0))
          have HBl2 := Lib.hid (hb.setCell (p := ⟨w.heap.size, 0, none⟩) (Nat.le_refl _) (.int .i64 0))
          go_wp2
          go_step3
          go_wp2
          exact ⟨L, 0, _, done, 0, c1, ⟨_, _, _, _, _, _, _, _, _, _, _, _, _, _, _, _, _, _, _, _, _, _, _, _, _, _, _, _, _, _, _, _, _, _, _, _, _, _, _, _, _, _, rfl⟩, HBl2.out, Nat.zero_le _, HB2.out, HO2.out, Or.inl ⟨rfl, HF.out⟩⟩
  · intro again
    have HAg := Lib.hid again
    clear again
    go_wp2_with fail
    refine (HL.out _ _ (HH.out.below ((Below.refl _ w).alloc (Nat.le_refl _) _) (Nat.le_refl _))).mono ?_
    have HBk := Lib.hid (Blk.new w 65 #[.int .i64 0, .int .i64 0])
    have HBl := Lib.hid ((Below.refl w.heap.size w).alloc (Nat.le_refl _) (.cells #[.int .i64 0, .int .i64 0] 65))
    rintro e w1 ⟨rfl, ⟨n, k, h1, hn, hk, rfl⟩ | ⟨h1, rfl⟩⟩
    · have HF : Hid (tkVotes zs i = restOf (tkVote zs) [] n k) := list_rest h1
      clear h1
      go_wp2
      go_step3
      rename_i hK
      refine hK _ _ (HAg.out 2 _ _ _ rfl ⟨_, k, n, [], 0, 0, ⟨_, _, _, _, _, _, _, _, _, _, _, _, _, _, _, _, _, _, _, _, _, _, _, _, _, _, _, _, _, _, _, _, _, _, _, _, _, _, _, _, _, _, rfl⟩, HBl.out, hk, HBk.out, World.ownsRow_nil _ _ _ _, Or.inr (Or.inr ⟨rfl, n, rfl, by simpa using hn, HF.out⟩)⟩)
    · have HF : Hid (tkVotes zs i = none) := by simp [Hid, tkVotes, tkList, h1]
      clear h1
      go_wp2
      go_step3
      go_wp2
      exact ⟨_, 0, _, [], 0, 0, ⟨_, _, _, _, _, _, _, _, _, _, _, _, _, _, _, _, _, _, _, _, _, _, _, _, _, _, _, _, _, _, _, _, _, _, _, _, _, _, _, _, _, _, rfl⟩, HBl.out, Nat.zero_le _, HBk.out, World.ownsRow_nil _ _ _ _, Or.inl ⟨rfl, HF.out⟩⟩
end Go.Proofs.YtbegjadohamkkaaGreat
/- The contract of pack.TakeBatch. -/
namespace Go.Proofs.YtbegjadohamkkaaGreat
open Go.RowKit

theorem Tryz.info69 : (Tryz.prog.info? 69).map (fun i => (i.zero, i.size, i.bytes)) = some (some (.agg #[.int .i64 0, .int .i64 0, .int .i64 0, .int .i64 0, .int .i64 0, .int .i64 0]), 6, 48) := by kernel_rfl

/-- What TakeBatch answers. -/
def BatchTaken (zs : List Int) (i : Int) (w : World) (e : Ending) (w' : World) : Prop :=
  Below w.heap.size w w' ∧ ((∃ (l : List Rq) (k : Nat) (A : Option Addr) (c : Nat), tkBatch zs i = some (l, (k : Int)) ∧ k ≤ zs.length ∧ l.length ≤ 256 ∧ e = .returned (.tuple #[.slice A l.length c, .int .i64 k, .bool true]) ∧
      w'.ownsRow w.heap.size 69 6 (.slice A l.length c) l.length (reqCells l)) ∨
    (tkBatch zs i = none ∧ e = .returned (.tuple #[.slice none 0 0, .int .i64 0, .bool false])))
/-- The frame of TakeBatch. -/
def BatchFrame (B X L nx left p : Value) (a : Act) : Prop :=
  ∃ u2 u3 u6 u9 u10 u11 u12 u13 u14 u15 u16 u17 u18 u19 u20 u21 u22 u23 u24 u25 u26 u27 u28 u29 u30 u31 u32 u33 u34 u35 u36 : Value, a = { tmps := #[B, X, u2, u3, L, nx, u6, left, p, u9, u10, u11, u12, u13, u14, u15, u16, u17, u18, u19, u20, u21, u22, u23, u24, u25, u26, u27, u28, u29, u30, u31, u32, u33, u34, u35, u36], defers := [] }

/-- What holds at each label: 0: nothing is taken; 1: all are taken; 2: at the next request. -/
def BatchAt (X0 : Value) (i : Int) (zs : List Int) (w : World) (l : Nat) (a : Act) (w' : World) : Prop :=
  ∃ (L : Value) (nx : Nat) (left : Int) (done : List Rq) (c : Rq), BatchFrame X0 (.int .i64 i) L (.int .i64 nx) (.int .i64 left) (.pointer (some ⟨w.heap.size, 0, none⟩)) a ∧ Below w.heap.size w w' ∧ nx ≤ zs.length ∧
    Blk w' w.heap.size 69 #[.int .i64 c.cl, .int .i64 c.tm, .int .i64 c.kd, .int .i64 c.ky, .int .i64 c.vl, .int .i64 c.sg] ∧ w'.ownsRow (w.heap.size + 1) 69 6 L done.length (reqCells done) ∧
    ((l = 0 ∧ tkBatch zs i = none) ∨ (l = 1 ∧ tkBatch zs i = some (done, (nx : Int)) ∧ done.length ≤ 256) ∨ (l = 2 ∧ ∃ n : Nat, left = n ∧ done.length + n ≤ 256 ∧ tkBatch zs i = restOf (tkReq zs) done n nx))
theorem blk_six {w : World} {g : Nat} {t : TypeId} {a0 a1 a2 a3 a4 a5 : Value} (h : Blk w g t #[a0, a1, a2, a3, a4, a5]) (b0 b1 b2 b3 b4 b5 : Value) : Blk (w.setCells g 0 [b0, b1, b2, b3, b4, b5]) g t #[b0, b1, b2, b3, b4, b5] :=
  (((((h.set_ 0 b0).set_ 1 b1).set_ 2 b2).set_ 3 b3).set_ 4 b4).set_ 5 b5
theorem below_six {B : Nat} {a w : World} (h : Below B a w) (b0 b1 b2 b3 b4 b5 : Value) : Below B a (w.setCells B 0 [b0, b1, b2, b3, b4, b5]) :=
  (((((h.setCell (p := ⟨B, 0, none⟩) (Nat.le_refl _) b0).setCell (p := ⟨B, 1, none⟩) (Nat.le_refl _) b1).setCell (p := ⟨B, 2, none⟩) (Nat.le_refl _) b2).setCell (p := ⟨B, 3, none⟩) (Nat.le_refl _) b3).setCell (p := ⟨B, 4, none⟩) (Nat.le_refl _) b4).setCell (p := ⟨B, 5, none⟩) (Nat.le_refl _) b5
theorem own_six {w : World} {b n s g : Nat} {e : TypeId} {v : Value} {xs : List Value} (h : w.ownsRow b e s v n xs) (hg : g < b) (b0 b1 b2 b3 b4 b5 : Value) : (w.setCells g 0 [b0, b1, b2, b3, b4, b5]).ownsRow b e s v n xs :=
  own_far (own_far (own_far (own_far (own_far (own_far h (p := ⟨g, 0, none⟩) (own_blk_lt h hg) b0) (p := ⟨g, 1, none⟩) (own_blk_lt h hg) b1) (p := ⟨g, 2, none⟩) (own_blk_lt h hg) b2) (p := ⟨g, 3, none⟩) (own_blk_lt h hg) b3) (p := ⟨g, 4, none⟩) (own_blk_lt h hg) b4) (p := ⟨g, 5, none⟩) (own_blk_lt h hg) b5
theorem blk_there {w : World} {g : Nat} {t : TypeId} {cs : Array Value} (h : Blk w g t cs) : w.there g 0 cs.size := fun j hj => by
  refine ⟨?_, h.frozen _⟩
  rw [h.cell]
  simp [hj]
theorem req_size : (Tryz.prog.info? 69).map (·.size) = some 6 := by kernel_rfl
theorem one_six (a b c d e f : Int) : (#[.int .i64 a, .int .i64 b, .int .i64 c, .int .i64 d, .int .i64 e, .int .i64 f] : Array Value).all (·.oneCell') = true :=
  all_oneCell_toArray (cs := [.int .i64 a, .int .i64 b, .int .i64 c, .int .i64 d, .int .i64 e, .int .i64 f]) (by intro v hv; simp at hv; rcases hv with rfl | rfl | rfl | rfl | rfl | rfl <;> rfl)
theorem there_six {w : World} {g : Nat} {t : TypeId} {a0 a1 a2 a3 a4 a5 : Value} (h : Blk w g t #[a0, a1, a2, a3, a4, a5]) : w.there g 0 6 := blk_there h
/-- One request more. -/
theorem batch_more {w2 : World} {b : Nat} {done : List Rq} {v : Rq} {L2 : Value} (h : w2.ownsRow b 69 6 L2 (done.length + 1) (reqCells done ++ [.int .i64 v.cl, .int .i64 v.tm, .int .i64 v.kd, .int .i64 v.ky, .int .i64 v.vl, .int .i64 v.sg])) :
    w2.ownsRow b 69 6 L2 (done ++ [v]).length (reqCells (done ++ [v])) := by
  have e : reqCells (done ++ [v]) = reqCells done ++ [.int .i64 v.cl, .int .i64 v.tm, .int .i64 v.kd, .int .i64 v.ky, .int .i64 v.vl, .int .i64 v.sg] := by simp [reqCells, Rq.cells]
  rw [e, List.length_append]
  exact h

set_option maxHeartbeats 2000000 in
set_option maxRecDepth 100000 in
theorem take_batch (A : Option Addr) (cap : Nat) (zs : List Int) (B : Nat) (i : Int) (hl : zs.length ≤ 9223372036854775806) (hi : i ≤ 9223372036854775807) (hz : ∀ z ∈ zs, 0 ≤ z ∧ z ≤ 255) (w : World) (hB : B ≤ w.heap.size) (hh : Has w B A (u8s zs)) :
    Calls Tryz.prog 100 #[.slice A zs.length cap, .int .i64 i] w (BatchTaken zs i w) := by
  obtain ⟨i0, hinf, hy0, hy1, hy2⟩ := info_parts Tryz.info69
  have HH := Lib.hid (hh.more hB)
  have HN := Lib.hid (fun (i : Int) (hi : i ≤ 9223372036854775807) w B hB h => take_req A cap zs B i hl hi hz w hB h)
  have HL := Lib.hid (fun w B h => take_length A cap zs B i hl hi hz w h)
  clear hz hh
  go_enter Tryz.func100, Tryz.ntmps100
  go_wp2
  refine wp_scope_fall (BatchAt (.slice A zs.length cap) i zs w) (fun l a' _ => if l = 2 then (intOf (a'.tmps.getD 7 undef)).toNat + 1 else 0) ?_ ?_
  · rintro l a' w' ⟨L, nx, left, done, cc, ⟨u2, u3, u6, u9, u10, u11, u12, u13, u14, u15, u16, u17, u18, u19, u20, u21, u22, u23, u24, u25, u26, u27, u28, u29, u30, u31, u32, u33, u34, u35, u36, rfl⟩, hb, hnx, hblk, hown, hl3⟩
    have hbs := hb.size
    rcases hl3 with ⟨rfl, hr⟩ | ⟨rfl, hr, hd⟩ | ⟨rfl, n, rfl, hn, hr⟩
    · refine ⟨_, rfl, ?_⟩
      have HR : Hid (BatchTaken zs i w (.returned (.tuple #[.slice none 0 0, .int .i64 0, .bool false])) w') := ⟨hb, Or.inr ⟨hr, rfl⟩⟩
      clear hr
      go_wp2
      go_ret3
      exact HR.out
    · refine ⟨_, rfl, ?_⟩
      obtain ⟨A2, c2, rfl, _, _⟩ := own_slice hown
      have HR : Hid (BatchTaken zs i w (.returned (.tuple #[.slice A2 done.length c2, .int .i64 nx, .bool true])) w') := ⟨hb, Or.inl ⟨done, nx, A2, c2, hr, hnx, hd, rfl, own_base hown (Nat.le_succ _)⟩⟩
      clear hr hown hblk
      go_wp2
      go_ret3
      exact HR.out
    · refine ⟨_, rfl, ?_⟩
      have HR := Lib.hid hr
      have HO := Lib.hid hown
      have HBl := Lib.hid hblk
      have HB0 := Lib.hid hb
      have HH1 := Lib.hid (HH.out.below hb (Nat.le_refl _))
      clear hr hown hblk
      cases n with
      | zero =>
        rw [restOf_zero] at HR
        go_wp2
        go_step3
        go_wp2
        exact ⟨L, nx, _, done, cc, ⟨_, _, _, _, _, _, _, _, _, _, _, _, _, _, _, _, _, _, _, _, _, _, _, _, _, _, _, _, _, _, _, rfl⟩, hb, hnx, HBl.out, HO.out, Or.inr (Or.inl ⟨rfl, HR.out, by omega⟩)⟩
      | succ n =>
        have hne : (((n + 1 : Nat) : Int) == 0) = false := by simp; omega
        go_wp2_with fail
        refine (HN.out nx (by omega) _ _ hbs HH1.out).mono ?_
        rintro e w1 ⟨hb1, h1⟩
        have hb2 := hb.trans (hb1.mono hbs)
        have hblk1 := HBl.out.below hb1 HBl.out.lt
        have HB1 := Lib.hid hblk1
        have HO1 := Lib.hid (below_own HO.out hb1 (Nat.le_refl _))
        rcases h1 with ⟨r, k0, h1, hk0, rfl⟩ | ⟨h1, rfl⟩
        · have HF : Hid (tkBatch zs i = restOf (tkReq zs) (done ++ [r]) n k0) := HR.out.trans (restOf_some h1)
          obtain ⟨w2, hw2⟩ : ∃ w2, w1.setCells w.heap.size 0 [.int .i64 r.cl, .int .i64 r.tm, .int .i64 r.kd, .int .i64 r.ky, .int .i64 r.vl, .int .i64 r.sg] = w2 := ⟨_, rfl⟩
          have hblk2 : Blk w2 w.heap.size 69 #[.int .i64 r.cl, .int .i64 r.tm, .int .i64 r.kd, .int .i64 r.ky, .int .i64 r.vl, .int .i64 r.sg] := by rw [← hw2]; exact blk_six hblk1 _ _ _ _ _ _
          have hsz2 := hblk2.lt
          have HBl2 := Lib.hid (show Below w.heap.size w w2 by rw [← hw2]; exact below_six hb2 _ _ _ _ _ _)
          have HO2 := Lib.hid (show w2.ownsRow (w.heap.size + 1) 69 6 L done.length (reqCells done) by rw [← hw2]; exact own_six HO1.out (Nat.lt_succ_self _) _ _ _ _ _ _)
          have HB2 := Lib.hid hblk2
          have HW2 := Lib.hid hw2
          have HTh := Lib.hid (there_six hblk1)
          have hszw := hb2.size
          have de0 : w2.cell? ⟨w.heap.size, 0, none⟩ = some (.int .i64 r.cl) := hblk2.cell 0
          have de1 : w2.cell? ⟨w.heap.size, 1, none⟩ = some (.int .i64 r.tm) := hblk2.cell 1
          have de2 : w2.cell? ⟨w.heap.size, 2, none⟩ = some (.int .i64 r.kd) := hblk2.cell 2
          have de3 : w2.cell? ⟨w.heap.size, 3, none⟩ = some (.int .i64 r.ky) := hblk2.cell 3
          have de4 : w2.cell? ⟨w.heap.size, 4, none⟩ = some (.int .i64 r.vl) := hblk2.cell 4
          have de5 : w2.cell? ⟨w.heap.size, 5, none⟩ = some (.int .i64 r.sg) := hblk2.cell 5
          clear h1 hw2 hblk2 hblk1
          go_wp2_with (first | (refine wpList_store_mid rfl 69 (.tmp 8) (.tmp 26) rfl w.heap.size 0 #[.int .i64 r.cl, .int .i64 r.tm, .int .i64 r.kd, .int .i64 r.ky, .int .i64 r.vl, .int .i64 r.sg] rfl rfl HTh.out req_size (one_six _ _ _ _ _ _) ?_; rw [HW2.out]) | (at_builtin; refine wpList_append_own _ rfl (.tmp 31) (.tmp 33) 22 rfl (w.heap.size + 1) 69 i0 _ 6 48 Tryz.underlying22 hinf hy0 hy1 hy2 rfl (by decide) _ _ _ rfl (HO2.out.alloc _) ⟨w2.heap.size, 0, none⟩ 1 1 [.int .i64 r.cl, .int .i64 r.tm, .int .i64 r.kd, .int .i64 r.ky, .int .i64 r.vl, .int .i64 r.sg] rfl rfl ?c1 ?c2 ?c3 ?c4 ?c5 ?_))
          case c1 => exact World.news_of_block (cs := #[.int .i64 r.cl, .int .i64 r.tm, .int .i64 r.kd, .int .i64 r.ky, .int .i64 r.vl, .int .i64 r.sg]) (heap_alloc_new w2 (.cells #[.int .i64 r.cl, .int .i64 r.tm, .int .i64 r.kd, .int .i64 r.ky, .int .i64 r.vl, .int .i64 r.sg] 69))
          case c2 => intro u hu; simp at hu; rcases hu with rfl | rfl | rfl | rfl | rfl | rfl <;> rfl
          case c3 => unfold maxLen; omega
          case c4 => omega
          case c5 => simp; omega
          intro L2 w3 ho3 hg3 _
          have HO3 := Lib.hid (batch_more (v := r) ho3)
          have HB3 := Lib.hid ((HB2.out.alloc (.cells #[.int .i64 r.cl, .int .i64 r.tm, .int .i64 r.kd, .int .i64 r.ky, .int .i64 r.vl, .int .i64 r.sg] 69)).grown hg3 (fun he => own_blk_lt HO2.out (Nat.lt_succ_self _) he.symm))
          have hb3 := ((HBl2.out.alloc HBl2.out.size (.cells #[.int .i64 r.cl, .int .i64 r.tm, .int .i64 r.kd, .int .i64 r.ky, .int .i64 r.vl, .int .i64 r.sg] 69)).grown hg3 (by have := HBl2.out.size; simp; omega) (fun k hk => by have := (HO2.out.lt k hk).1; omega))
          clear ho3 hg3 de0 de1 de2 de3 de4 de5
          go_wp2
          go_step3
          go_wp2
          exact ⟨⟨L2, k0, n, done ++ [r], r, ⟨_, _, _, _, _, _, _, _, _, _, _, _, _, _, _, _, _, _, _, _, _, _, _, _, _, _, _, _, _, _, _, rfl⟩, hb3, hk0, HB3.out, HO3.out, Or.inr (Or.inr ⟨rfl, n, rfl, by simp; omega, HF.out⟩)⟩, by simp [intOf]; omega⟩
        · have HF : Hid (tkBatch zs i = none) := HR.out.trans (restOf_none h1)
          obtain ⟨w2, hw2⟩ : ∃ w2, w1.setCells w.heap.size 0 [.int .i64 0, .int .i64 0, .int .i64 0, .int .i64 0, .int .i64 0, .int .i64 0] = w2 := ⟨_, rfl⟩
          have hblk2 : Blk w2 w.heap.size 69 #[.int .i64 0, .int .i64 0, .int .i64 0, .int .i64 0, .int .i64 0, .int .i64 0] := by rw [← hw2]; exact blk_six hblk1 _ _ _ _ _ _
          have HBl2 := Lib.hid (show Below w.heap.size w w2 by rw [← hw2]; exact below_six hb2 _ _ _ _ _ _)
          have HO2 := Lib.hid (show w2.ownsRow (w.heap.size + 1) 69 6 L done.length (reqCells done) by rw [← hw2]; exact own_six HO1.out (Nat.lt_succ_self _) _ _ _ _ _ _)
          have HB2 := Lib.hid hblk2
          have HW2 := Lib.hid hw2
          have HTh := Lib.hid (there_six hblk1)
          clear h1 hw2 hblk2 hblk1
          go_wp2_with (refine wpList_store_mid rfl 69 (.tmp 8) (.tmp 26) rfl w.heap.size 0 #[.int .i64 0, .int .i64 0, .int .i64 0, .int .i64 0, .int .i64 0, .int .i64 0] rfl rfl HTh.out req_size (one_six _ _ _ _ _ _) ?_; rw [HW2.out])
          go_step3
          go_wp2
          exact ⟨L, 0, _, done, ⟨0, 0, 0, 0, 0, 0⟩, ⟨_, _, _, _, _, _, _, _, _, _, _, _, _, _, _, _, _, _, _, _, _, _, _, _, _, _, _, _, _, _, _, rfl⟩, HBl2.out, Nat.zero_le _, HB2.out, HO2.out, Or.inl ⟨rfl, HF.out⟩⟩
  · intro again
    have HAg := Lib.hid again
    clear again
    go_wp2_with fail
    refine (HL.out _ _ (HH.out.below ((Below.refl _ w).alloc (Nat.le_refl _) _) (Nat.le_refl _))).mono ?_
    have HBk := Lib.hid (Blk.new w 69 #[.int .i64 0, .int .i64 0, .int .i64 0, .int .i64 0, .int .i64 0, .int .i64 0])
    have HBl := Lib.hid ((Below.refl w.heap.size w).alloc (Nat.le_refl _) (.cells #[.int .i64 0, .int .i64 0, .int .i64 0, .int .i64 0, .int .i64 0, .int .i64 0] 69))
    rintro e w1 ⟨rfl, ⟨n, k, h1, hn, hk, rfl⟩ | ⟨h1, rfl⟩⟩
    · have HF : Hid (tkBatch zs i = restOf (tkReq zs) [] n k) := list_rest h1
      clear h1
      go_wp2
      go_step3
      rename_i hK
      refine hK _ _ (HAg.out 2 _ _ _ rfl ⟨_, k, n, [], ⟨0, 0, 0, 0, 0, 0⟩, ⟨_, _, _, _, _, _, _, _, _, _, _, _, _, _, _, _, _, _, _, _, _, _, _, _, _, _, _, _, _, _, _, rfl⟩, HBl.out, hk, HBk.out, World.ownsRow_nil _ _ _ _, Or.inr (Or.inr ⟨rfl, n, rfl, by simpa using hn, HF.out⟩)⟩)
    · have HF : Hid (tkBatch zs i = none) := by simp [Hid, tkBatch, tkList, h1]
      clear h1
      go_wp2
      go_step3
      go_wp2
      exact ⟨_, 0, _, [], ⟨0, 0, 0, 0, 0, 0⟩, ⟨_, _, _, _, _, _, _, _, _, _, _, _, _, _, _, _, _, _, _, _, _, _, _, _, _, _, _, _, _, _, _, rfl⟩, HBl.out, Nat.zero_le _, HBk.out, World.ownsRow_nil _ _ _ _, Or.inl ⟨rfl, HF.out⟩⟩
end Go.Proofs.YtbegjadohamkkaaGreat
/- What the takers of lists of certificates and of parts keep: the variable's block, the row that grows, the rows within what was taken. -/
namespace Go.Proofs.YtbegjadohamkkaaGreat
open Go.RowKit

/-- The variable's block w.heap.size, of type T, and the row L of the call's own, of that type too. -/
structure Tkg (T : TypeId) (s : Nat) (w W : World) (L : Value) (n : Nat) (xs : List Value) (cs : Array Value) : Prop where
  bl : Below w.heap.size w W
  blk : Blk W w.heap.size T cs
  row : W.ownsRow (w.heap.size + 1) T s L n xs
/-- Rows of other types than T are kept. -/
def KeepsRows (T : TypeId) (W W' : World) : Prop := ∀ b e s v n xs, e ≠ T → W.ownsRow b e s v n xs → W'.ownsRow b e s v n xs
section
variable {T : TypeId} {s n : Nat} {w W W' : World} {L : Value} {xs : List Value} {cs : Array Value}
theorem Tkg.set_ (h : Tkg T s w W L n xs cs) (i : Nat) (v : Value) : Tkg T s w (W.setCell ⟨w.heap.size, i, none⟩ v) L n xs (cs.setIfInBounds i v) :=
  ⟨h.bl.setCell (p := ⟨w.heap.size, i, none⟩) (Nat.le_refl _) v, h.blk.set_ i v, own_far h.row (p := ⟨w.heap.size, i, none⟩) (own_blk_lt h.row (Nat.lt_succ_self _)) v⟩
theorem Tkg.below (h : Tkg T s w W L n xs cs) (hb : Below W.heap.size W W') : Tkg T s w W' L n xs cs :=
  ⟨h.bl.trans (hb.mono h.bl.size), h.blk.below hb h.blk.lt, below_own h.row hb (Nat.le_refl _)⟩
theorem Tkg.app (h : Tkg T s w W L n xs cs) {o : Obj} {L2 : Value} {news : List Value} (ho : W'.ownsRow (w.heap.size + 1) T s L2 (n + 1) (xs ++ news)) (hg : (W.alloc o).grownBy W' L.ownBlock) : Tkg T s w W' L2 (n + 1) (xs ++ news) cs :=
  ⟨(h.bl.alloc h.bl.size o).grown hg (by have := h.bl.size; simp; omega) (fun k hk => by have := (h.row.lt k hk).1; omega), (h.blk.alloc o).grown hg (fun he => own_blk_lt h.row (Nat.lt_succ_self _) he.symm), ho⟩
theorem Tkg.cell (h : Tkg T s w W L n xs cs) (i : Nat) : W.cell? ⟨w.heap.size, i, none⟩ = cs[i]? := h.blk.cell i
theorem Tkg.frozen (h : Tkg T s w W L n xs cs) (i : Nat) : W.frozen? ⟨w.heap.size, i, none⟩ = false := h.blk.frozen i
theorem KeepsRows.trans {W'' : World} (h : KeepsRows T W W') (k : KeepsRows T W' W'') : KeepsRows T W W'' := fun b e s v n xs hne ho => k b e s v n xs hne (h b e s v n xs hne ho)
theorem KeepsRows.set_ (h : Tkg T s w W L n xs cs) (i : Nat) (v : Value) : KeepsRows T W (W.setCell ⟨w.heap.size, i, none⟩ v) := fun _ _ _ _ _ _ hne ho =>
  own_far ho (p := ⟨w.heap.size, i, none⟩) (own_blk_ne ho h.blk hne) v
theorem KeepsRows.below (hb : Below W.heap.size W W') : KeepsRows T W W' := fun _ _ _ _ _ _ _ ho => below_own ho hb (Nat.le_refl _)
theorem KeepsRows.app (h : Tkg T s w W L n xs cs) {o : Obj} (hg : (W.alloc o).grownBy W' L.ownBlock) : KeepsRows T W W' := fun _ _ _ _ _ _ hne ho =>
  (ho.alloc o).kept hg (own_apart (ho.alloc o) (h.row.alloc o) hne)
end
/-- A row of any size of elements, as a slice that reads so. -/
theorem Has.ownS {w : World} {base n c s : Nat} {e : TypeId} {A : Option Addr} {xs : List Value} (h : w.ownsRow base e s (.slice A n c) n xs) : Has w w.heap.size A xs := fun j u hj => by
  have hl : j < xs.length := (List.getElem?_eq_some_iff.1 hj).1
  have hn : 0 < n := by
    have := h.1
    rcases Nat.eq_zero_or_pos n with h0 | h0
    · subst h0; rw [Nat.zero_mul] at this; omega
    · exact h0
  obtain ⟨g, cap, hv, _, hlt⟩ := h.form hn
  have hA : A = some ⟨g, 0, none⟩ := by injection hv
  subst hA
  exact ⟨_, rfl, hlt, h.cells (g := g) rfl j u hj⟩
/-- A certificate whose lists are rows of the call's own. -/
structure Cs.Own (w : World) (b : Nat) (x : Cs) : Prop where
  bt : w.ownsRow b 69 6 (.slice x.A1 x.c.bt.length x.c1) x.c.bt.length (reqCells x.c.bt)
  vs : w.ownsRow b 65 2 (.slice x.A2 x.c.vs.length x.c2) x.c.vs.length (voteCells x.c.vs)
theorem Cs.Own.keeps {T : TypeId} {w w' : World} {b : Nat} {x : Cs} (h : x.Own w b) (hk : KeepsRows T w w') (h1 : 69 ≠ T) (h2 : 65 ≠ T) : x.Own w' b := ⟨hk _ _ _ _ _ _ h1 h.bt, hk _ _ _ _ _ _ h2 h.vs⟩
theorem Cs.Own.base {w : World} {b b' : Nat} {x : Cs} (h : x.Own w b) (hb : b' ≤ b) : x.Own w b' := ⟨own_base h.bt hb, own_base h.vs hb⟩
theorem Cs.Own.in_ {w : World} {b : Nat} {x : Cs} (h : x.Own w b) : x.In w w.heap.size := ⟨Has.ownS h.bt, Has.ownS h.vs⟩
/-- The slice v is a row of the call's own that reads as certificates. -/
def OwnCerts (w : World) (b : Nat) (v : Value) (l : List Ct) : Prop := ∃ L : List Cs, L.map Cs.c = l ∧ w.ownsRow b 25 5 v L.length (L.flatMap Cs.cells) ∧ ∀ x ∈ L, x.Own w b
theorem OwnCerts.nil (w : World) (b : Nat) : OwnCerts w b (.slice none 0 0) [] := ⟨[], rfl, World.ownsRow_nil _ _ _ _, by simp⟩
theorem OwnCerts.keeps {T : TypeId} {w w' : World} {b : Nat} {v : Value} {l : List Ct} (h : OwnCerts w b v l) (hk : KeepsRows T w w') (h0 : 25 ≠ T) (h1 : 69 ≠ T) (h2 : 65 ≠ T) : OwnCerts w' b v l := by
  obtain ⟨L, e, ho, hi⟩ := h
  exact ⟨L, e, hk _ _ _ _ _ _ h0 ho, fun x hx => (hi x hx).keeps hk h1 h2⟩
theorem OwnCerts.below {w w' : World} {b : Nat} {v : Value} {l : List Ct} (h : OwnCerts w b v l) (hb : Below w.heap.size w w') : OwnCerts w' b v l := by
  obtain ⟨L, e, ho, hi⟩ := h
  exact ⟨L, e, below_own ho hb (Nat.le_refl _), fun x hx => ⟨below_own (hi x hx).bt hb (Nat.le_refl _), below_own (hi x hx).vs hb (Nat.le_refl _)⟩⟩
theorem OwnCerts.base {w : World} {b b' : Nat} {v : Value} {l : List Ct} (h : OwnCerts w b v l) (hb : b' ≤ b) : OwnCerts w b' v l := by
  obtain ⟨L, e, ho, hi⟩ := h
  exact ⟨L, e, own_base ho hb, fun x hx => (hi x hx).base hb⟩
theorem OwnCerts.has {w : World} {b c : Nat} {A : Option Addr} {l : List Ct} (h : OwnCerts w b (.slice A l.length c) l) : HasCerts w w.heap.size A l := by
  obtain ⟨L, e, ho, hi⟩ := h
  have hl : L.length = l.length := by rw [← e]; simp
  rw [← hl] at ho
  exact ⟨L, e, Has.ownS ho, fun x hx => (hi x hx).in_⟩
theorem OwnCerts.slice {w : World} {b : Nat} {v : Value} {l : List Ct} (h : OwnCerts w b v l) : ∃ A c, v = .slice A l.length c ∧ l.length ≤ c ∧ c ≤ maxLen := by
  obtain ⟨L, e, ho, hi⟩ := h
  have hl : L.length = l.length := by rw [← e]; simp
  rw [hl] at ho
  exact own_slice ho
/-- A part whose lists are the call's own. -/
structure Ps.Own (w : World) (b : Nat) (x : Ps) : Prop where
  vs : w.ownsRow b 65 2 (.slice x.A1 x.p.vs.length x.c1) x.p.vs.length (voteCells x.p.vs)
  cs : OwnCerts w b (.slice x.A2 x.p.cs.length x.c2) x.p.cs
theorem Ps.Own.keeps {T : TypeId} {w w' : World} {b : Nat} {x : Ps} (h : x.Own w b) (hk : KeepsRows T w w') (h0 : 25 ≠ T) (h1 : 69 ≠ T) (h2 : 65 ≠ T) : x.Own w' b := ⟨hk _ _ _ _ _ _ h2 h.vs, h.cs.keeps hk h0 h1 h2⟩
theorem Ps.Own.base {w : World} {b b' : Nat} {x : Ps} (h : x.Own w b) (hb : b' ≤ b) : x.Own w b' := ⟨own_base h.vs hb, h.cs.base hb⟩
def OwnParts (w : World) (b : Nat) (v : Value) (l : List Pt) : Prop := ∃ L : List Ps, L.map Ps.p = l ∧ w.ownsRow b 73 4 v L.length (L.flatMap Ps.cells) ∧ ∀ x ∈ L, x.Own w b
theorem OwnParts.base {w : World} {b b' : Nat} {v : Value} {l : List Pt} (h : OwnParts w b v l) (hb : b' ≤ b) : OwnParts w b' v l := by
  obtain ⟨L, e, ho, hi⟩ := h
  exact ⟨L, e, own_base ho hb, fun x hx => (hi x hx).base hb⟩
theorem OwnParts.below {w w' : World} {b : Nat} {v : Value} {l : List Pt} (h : OwnParts w b v l) (hb : Below w.heap.size w w') : OwnParts w' b v l := by
  obtain ⟨L, e, ho, hi⟩ := h
  exact ⟨L, e, below_own ho hb (Nat.le_refl _), fun x hx => ⟨below_own (hi x hx).vs hb (Nat.le_refl _), (hi x hx).cs.below hb⟩⟩
theorem OwnParts.has {w : World} {b c : Nat} {A : Option Addr} {l : List Pt} (h : OwnParts w b (.slice A l.length c) l) : HasParts w w.heap.size A l := by
  obtain ⟨L, e, ho, hi⟩ := h
  have hl : L.length = l.length := by rw [← e]; simp
  rw [← hl] at ho
  exact ⟨L, e, Has.ownS ho, fun x hx => ⟨Has.ownS (hi x hx).vs, (hi x hx).cs.has⟩⟩
theorem OwnParts.slice {w : World} {b : Nat} {v : Value} {l : List Pt} (h : OwnParts w b v l) : ∃ A c, v = .slice A l.length c ∧ l.length ≤ c ∧ c ≤ maxLen := by
  obtain ⟨L, e, ho, hi⟩ := h
  have hl : L.length = l.length := by rw [← e]; simp
  rw [hl] at ho
  exact own_slice ho
/-- A row, as a word of its own. -/
theorem own_keepB {w w' : World} {b n s : Nat} {e : TypeId} {v : Value} {xs : List Value} (h : w.ownsRow b e s v n xs) (hb : Below w.heap.size w w') : w'.ownsRow b e s v n xs := below_own h hb (Nat.le_refl _)
theorem own_keepK {T : TypeId} {w w' : World} {b n s : Nat} {e : TypeId} {v : Value} {xs : List Value} (h : w.ownsRow b e s v n xs) (hk : KeepsRows T w w') (hne : e ≠ T) : w'.ownsRow b e s v n xs := hk _ _ _ _ _ _ hne h
theorem ownCerts_b {w : World} {b b' : Nat} {v : Value} {l : List Ct} (h : OwnCerts w b v l) (hb : b' ≤ b) : OwnCerts w b' v l := h.base hb
end Go.Proofs.YtbegjadohamkkaaGreat
/- The contracts of keep.Same at votes, at requests. -/
namespace Go.Proofs.YtbegjadohamkkaaGreat
open Go.RowKit

/-- Whether two lists are the same. -/
def sameL {α : Type} [DecidableEq α] (l m : List α) : Bool := decide (l = m)
theorem takeL_next {α : Type} {l m : List α} {k : Nat} (h1 : k < l.length) (h2 : k < m.length) (h : l.take k = m.take k) (e : l[k] = m[k]) : l.take (k + 1) = m.take (k + 1) := by
  rw [List.take_succ_eq_append_getElem h1, List.take_succ_eq_append_getElem h2, h, e]
theorem sameL_far {α : Type} [DecidableEq α] {l m : List α} {k : Nat} (h1 : k < l.length) (h2 : k < m.length) (e : l[k] ≠ m[k]) : sameL l m = false := by
  unfold sameL
  rw [decide_eq_false_iff_not]
  rintro rfl
  exact e rfl
theorem sameL_end {α : Type} [DecidableEq α] {l m : List α} {k : Nat} (hk : l.length ≤ k) (h : l.take k = m.take k) (hl : l.length = m.length) : sameL l m = true := by
  unfold sameL
  rw [decide_eq_true_iff]
  rwa [List.take_of_length_le hk, List.take_of_length_le (by omega)] at h
theorem sameL_len {α : Type} [DecidableEq α] {l m : List α} (h : l.length ≠ m.length) : sameL l m = false := by
  unfold sameL
  rw [decide_eq_false_iff_not]
  rintro rfl
  exact h rfl

theorem fields_vote : Tryz.prog.underlying 65 = some (.struct (Tryz.prog.fieldsOf 65)) := by kernel_rfl
theorem guard_vote (op : BinOp) (x y : Operand) (xs ys : Array Value) (w : World) : (eqGuard op 65 x y (.agg xs) (.agg ys)).run Tryz.prog w = .ok () w := run_eqGuard_agg w op 65 x y xs ys (by kernel_rfl)
theorem equal_vote (x y : Vt) (d : Nat) (w : World) : (Op.equalIn (d + 2) 65 (.agg #[.int .i64 x.nd, .int .i64 x.sg]) (.agg #[.int .i64 y.nd, .int .i64 y.sg])).run Tryz.prog w = .ok (decide (x = y)) w := by
  rw [run_equalIn_struct w (d + 1) 65 _ _ fields_vote (by kernel_rfl)]
  obtain ⟨a, b⟩ := x
  obtain ⟨c, e⟩ := y
  have hf : (Tryz.prog.fieldsOf 65).toList = [⟨ "Node", 3, 0, false, "", "", 0⟩, ⟨ "Seal", 3, 1, false, "", "", 8⟩] := by kernel_rfl
  rw [hf]
  by_cases h1 : a = c
  · by_cases h2 : b = e
    · simp [Op.eqFields, part, go_sem, h1, h2]
    · simp [Op.eqFields, part, go_sem, h1, h2]
  · simp [Op.eqFields, part, go_sem, h1]

theorem neq_vote {x y : Vt} {r : Bool} (h : (!decide (x = y)) = r) (w : World) : (binOp .neq 65 (.agg #[.int .i64 x.nd, .int .i64 x.sg]) (.agg #[.int .i64 y.nd, .int .i64 y.sg])).run Tryz.prog w = .ok (.bool r) w := by
  rw [run_neq_struct, equal_vote x y 9998 w, ← h]
  rfl

set_option maxHeartbeats 400000 in
theorem same_votes (A A' : Option Addr) (c c' : Nat) (zs ys : List Vt) (B : Nat) (w : World) (hl : zs.length ≤ 9223372036854775806) (h1 : Has w B A (voteCells zs)) (h2 : Has w B A' (voteCells ys)) :
    Calls Tryz.prog 59 #[.slice A zs.length c, .slice A' ys.length c'] w fun e w' => e = .returned (.bool (sameL zs ys)) ∧ ∃ nq, w' = w.drewN nq := by
  have H1 := Lib.hid h1
  have H2 := Lib.hid h2
  clear h1 h2
  by_cases hlen : zs.length = ys.length
  · have HL := Lib.hid hlen
    go_enter Tryz.func59, Tryz.ntmps59
    go_wp2
    clear hlen
    go_loopw [5] (fun x wr => ∃ (k nq : Nat), x = .int .i64 k ∧ k ≤ zs.length ∧ wr = w.drewN nq ∧ Hid (zs.take k = ys.take k)) (fun x _ => zs.length - (intOf x).toNat)
    case atStart => exact ⟨0, 0, rfl, Nat.zero_le _, rfl, rfl⟩
    case round =>
      obtain ⟨k, nq, rfl, hk, rfl, HT⟩ := hrel
      by_cases hlt : k < zs.length
      · have hlt2 : k < ys.length := by rw [← HL.out]; exact hlt
        obtain ⟨a1, rfl, _, c0, c1⟩ := H1.out.vote hlt
        obtain ⟨a2, rfl, _, d0, d1⟩ := H2.out.vote hlt2
        obtain ⟨x, hx⟩ : ∃ x, zs[k] = x := ⟨_, rfl⟩
        obtain ⟨y, hy⟩ : ∃ y, ys[k] = y := ⟨_, rfl⟩
        rw [hx] at c0 c1
        rw [hy] at d0 d1
        have HX := Lib.hid hx
        have HY := Lib.hid hy
        clear hx hy
        have G := fun (w : World) => guard_vote .neq (.tmp 20) (.tmp 24) #[.int .i64 x.nd, .int .i64 x.sg] #[.int .i64 y.nd, .int .i64 y.sg] w
        by_cases hxy : x = y
        · have E := fun (w : World) => neq_vote (x := x) (y := y) (r := false) (by simp [hxy]) w
          have HT2 := Lib.hid (takeL_next hlt hlt2 HT.out (HX.out.trans (hxy.trans HY.out.symm)))
          clear hxy
          go_wp2
          go_quiet (fail)
          clear E G
          go_wp2
          go_roundw
          case rel => exact ⟨k + 1, _, by go_num, by omega, rfl, HT2.out⟩
          case measure => simp [intOf]; omega
        · have E := fun (w : World) => neq_vote (x := x) (y := y) (r := true) (by simp [hxy]) w
          have HS := Lib.hid (sameL_far hlt hlt2 (by rw [HX.out, HY.out]; exact hxy))
          clear hxy
          go_wp2
          go_quiet (fail)
          clear E G
          go_wp2
          go_ret
          exact ⟨by rw [HS.out]; rfl, ⟨_, World.drewN_drewN _ _ _⟩⟩
      · have HS := Lib.hid (sameL_end (by omega : zs.length ≤ k) HT.out HL.out)
        go_wp2
        go_ret
        exact ⟨by rw [HS.out]; rfl, ⟨_, rfl⟩⟩
  · have HS := Lib.hid (sameL_len hlen)
    have hb : decide (zs.length = ys.length) = false := by simpa using hlen
    have hb2 : ((zs.length : Int) != ys.length) = true := by simp; omega
    go_enter Tryz.func59, Tryz.ntmps59
    go_wp2
    go_ret
    exact ⟨by rw [HS.out]; rfl, ⟨0, rfl⟩⟩
theorem fields_req : Tryz.prog.underlying 69 = some (.struct (Tryz.prog.fieldsOf 69)) := by kernel_rfl
theorem fields_op : Tryz.prog.underlying 67 = some (.struct (Tryz.prog.fieldsOf 67)) := by kernel_rfl
theorem guard_req (op : BinOp) (x y : Operand) (xs ys : Array Value) (w : World) : (eqGuard op 69 x y (.agg xs) (.agg ys)).run Tryz.prog w = .ok () w := run_eqGuard_agg w op 69 x y xs ys (by kernel_rfl)
theorem equal_op (a b c a' b' c' : Int) (d : Nat) (w : World) : (Op.equalIn (d + 2) 67 (.agg #[.int .i64 a, .int .i64 b, .int .i64 c]) (.agg #[.int .i64 a', .int .i64 b', .int .i64 c'])).run Tryz.prog w = .ok (decide (a = a' ∧ b = b' ∧ c = c')) w := by
  rw [run_equalIn_struct w (d + 1) 67 _ _ fields_op (by kernel_rfl)]
  have hf : (Tryz.prog.fieldsOf 67).toList = [⟨ "Kind", 3, 0, false, "", "", 0⟩, ⟨ "Key", 3, 1, false, "", "", 8⟩, ⟨ "Val", 3, 2, false, "", "", 16⟩] := by kernel_rfl
  rw [hf]
  by_cases h1 : a = a'
  · by_cases h2 : b = b'
    · by_cases h3 : c = c'
      · simp [Op.eqFields, part, go_sem, h1, h2, h3]
      · simp [Op.eqFields, part, go_sem, h1, h2, h3]
    · simp [Op.eqFields, part, go_sem, h1, h2]
  · simp [Op.eqFields, part, go_sem, h1]
theorem equal_req (x y : Rq) (d : Nat) (w : World) : (Op.equalIn (d + 3) 69 (.agg #[.int .i64 x.cl, .int .i64 x.tm, .int .i64 x.kd, .int .i64 x.ky, .int .i64 x.vl, .int .i64 x.sg]) (.agg #[.int .i64 y.cl, .int .i64 y.tm, .int .i64 y.kd, .int .i64 y.ky, .int .i64 y.vl, .int .i64 y.sg])).run Tryz.prog w = .ok (decide (x = y)) w := by
  rw [run_equalIn_struct w (d + 2) 69 _ _ fields_req (by kernel_rfl)]
  obtain ⟨a1, a2, a3, a4, a5, a6⟩ := x
  obtain ⟨b1, b2, b3, b4, b5, b6⟩ := y
  have hf : (Tryz.prog.fieldsOf 69).toList = [⟨ "Client", 3, 0, false, "", "", 0⟩, ⟨ "Time", 3, 1, false, "", "", 8⟩, ⟨ "Op", 67, 2, false, "", "", 16⟩, ⟨ "Seal", 3, 5, false, "", "", 40⟩] := by kernel_rfl
  rw [hf]
  have ho : ∀ w, (Op.equalIn (d + 2) 67 (.agg #[.int .i64 a3, .int .i64 a4, .int .i64 a5]) (.agg #[.int .i64 b3, .int .i64 b4, .int .i64 b5])).run Tryz.prog w = .ok (decide (a3 = b3 ∧ a4 = b4 ∧ a5 = b5)) w := fun w => equal_op a3 a4 a5 b3 b4 b5 d w
  by_cases h1 : a1 = b1
  · by_cases h2 : a2 = b2
    · by_cases h3 : a3 = b3 ∧ a4 = b4 ∧ a5 = b5
      · by_cases h4 : a6 = b6
        · obtain ⟨h3, h5, h6⟩ := h3
          simp [Op.eqFields, part, go_sem, h1, h2, h3, h4, h5, h6]
        · simp only [Rq.mk.injEq]
          simp [Op.eqFields, part, go_sem, h1, h2, h3, h4]
      · have hne : ¬ ((⟨a1, a2, a3, a4, a5, a6⟩ : Rq) = ⟨b1, b2, b3, b4, b5, b6⟩) := fun h => h3 (by injection h with _ _ h1 h2 h3 _; exact ⟨h1, h2, h3⟩)
        rw [decide_eq_false hne]
        simp [Op.eqFields, part, go_sem, ho, h1, h2, h3]
    · simp [Op.eqFields, part, go_sem, h1, h2]
  · simp [Op.eqFields, part, go_sem, h1]
theorem neq_req {x y : Rq} {r : Bool} (h : (!decide (x = y)) = r) (w : World) : (binOp .neq 69 (.agg #[.int .i64 x.cl, .int .i64 x.tm, .int .i64 x.kd, .int .i64 x.ky, .int .i64 x.vl, .int .i64 x.sg]) (.agg #[.int .i64 y.cl, .int .i64 y.tm, .int .i64 y.kd, .int .i64 y.ky, .int .i64 y.vl, .int .i64 y.sg])).run Tryz.prog w = .ok (.bool r) w := by
  rw [run_neq_struct, equal_req x y 9997 w, ← h]
  rfl

set_option maxHeartbeats 400000 in
theorem same_reqs (A A' : Option Addr) (c c' : Nat) (zs ys : List Rq) (B : Nat) (w : World) (hl : zs.length ≤ 9223372036854775806) (h1 : Has w B A (reqCells zs)) (h2 : Has w B A' (reqCells ys)) :
    Calls Tryz.prog 58 #[.slice A zs.length c, .slice A' ys.length c'] w fun e w' => e = .returned (.bool (sameL zs ys)) ∧ ∃ nq, w' = w.drewN nq := by
  have H1 := Lib.hid h1
  have H2 := Lib.hid h2
  clear h1 h2
  by_cases hlen : zs.length = ys.length
  · have HL := Lib.hid hlen
    go_enter Tryz.func58, Tryz.ntmps58
    go_wp2
    clear hlen
    go_loopw [5] (fun x wr => ∃ (k nq : Nat), x = .int .i64 k ∧ k ≤ zs.length ∧ wr = w.drewN nq ∧ Hid (zs.take k = ys.take k)) (fun x _ => zs.length - (intOf x).toNat)
    case atStart => exact ⟨0, 0, rfl, Nat.zero_le _, rfl, rfl⟩
    case round =>
      obtain ⟨k, nq, rfl, hk, rfl, HT⟩ := hrel
      by_cases hlt : k < zs.length
      · have hlt2 : k < ys.length := by rw [← HL.out]; exact hlt
        obtain ⟨a1, rfl, _, c0, c1, c2, c3, c4, c5⟩ := H1.out.req hlt
        obtain ⟨a2, rfl, _, d0, d1, d2, d3, d4, d5⟩ := H2.out.req hlt2
        obtain ⟨x, hx⟩ : ∃ x, zs[k] = x := ⟨_, rfl⟩
        obtain ⟨y, hy⟩ : ∃ y, ys[k] = y := ⟨_, rfl⟩
        rw [hx] at c0 c1 c2 c3 c4 c5
        rw [hy] at d0 d1 d2 d3 d4 d5
        have HX := Lib.hid hx
        have HY := Lib.hid hy
        clear hx hy
        have G := fun (w : World) => guard_req .neq (.tmp 20) (.tmp 24) #[.int .i64 x.cl, .int .i64 x.tm, .int .i64 x.kd, .int .i64 x.ky, .int .i64 x.vl, .int .i64 x.sg] #[.int .i64 y.cl, .int .i64 y.tm, .int .i64 y.kd, .int .i64 y.ky, .int .i64 y.vl, .int .i64 y.sg] w
        by_cases hxy : x = y
        · have E := fun (w : World) => neq_req (x := x) (y := y) (r := false) (by simp [hxy]) w
          have HT2 := Lib.hid (takeL_next hlt hlt2 HT.out (HX.out.trans (hxy.trans HY.out.symm)))
          clear hxy
          go_wp2
          go_quiet (fail)
          clear E G
          go_wp2
          go_roundw
          case rel => exact ⟨k + 1, _, by go_num, by omega, rfl, HT2.out⟩
          case measure => simp [intOf]; omega
        · have E := fun (w : World) => neq_req (x := x) (y := y) (r := true) (by simp [hxy]) w
          have HS := Lib.hid (sameL_far hlt hlt2 (by rw [HX.out, HY.out]; exact hxy))
          clear hxy
          go_wp2
          go_quiet (fail)
          clear E G
          go_wp2
          go_ret
          exact ⟨by rw [HS.out]; rfl, ⟨_, World.drewN_drewN _ _ _⟩⟩
      · have HS := Lib.hid (sameL_end (by omega : zs.length ≤ k) HT.out HL.out)
        go_wp2
        go_ret
        exact ⟨by rw [HS.out]; rfl, ⟨_, rfl⟩⟩
  · have HS := Lib.hid (sameL_len hlen)
    have hb : decide (zs.length = ys.length) = false := by simpa using hlen
    have hb2 : ((zs.length : Int) != ys.length) = true := by simp; omega
    go_enter Tryz.func58, Tryz.ntmps58
    go_wp2
    go_ret
    exact ⟨by rw [HS.out]; rfl, ⟨0, rfl⟩⟩
end Go.Proofs.YtbegjadohamkkaaGreat
/- The contract of keep.HeavyCerts: whether there are more than so many certificates, or one of them has more than so many requests or votes. -/
namespace Go.Proofs.YtbegjadohamkkaaGreat
open Go.RowKit

def lightC (c : Ct) : Bool := decide (c.bt.length ≤ 12 ∧ c.vs.length ≤ 30)
def heavyC (l : List Ct) : Bool := !(decide (l.length ≤ 20) && l.all lightC)
theorem heavyC_len {l : List Ct} (h : 20 < l.length) : heavyC l = true := by
  simp [heavyC]; omega
theorem heavyC_one {l : List Ct} {k : Nat} (hk : k < l.length) (h : lightC l[k] = false) : heavyC l = true := by
  unfold heavyC
  rw [Bool.not_eq_true', Bool.and_eq_false_iff]
  refine Or.inr ?_
  rw [List.all_eq_false]
  exact ⟨l[k], List.getElem_mem hk, by simp [h]⟩
theorem heavyC_no {l : List Ct} (h1 : l.length ≤ 20) (h2 : (l.take l.length).all lightC = true) : heavyC l = false := by
  rw [List.take_length] at h2
  simp [heavyC, h1, h2]
theorem all_more {l : List Ct} {k : Nat} (hk : k < l.length) (h : (l.take k).all lightC = true) (h2 : lightC l[k] = true) : (l.take (k + 1)).all lightC = true := by
  rw [List.take_succ_eq_append_getElem hk, List.all_append]
  simp [h, h2]
theorem light_of {l : List Ct} (h : heavyC l = false) : l.length ≤ 20 ∧ ∀ c ∈ l, c.bt.length ≤ 12 ∧ c.vs.length ≤ 30 := by
  simp only [heavyC, Bool.not_eq_false', Bool.and_eq_true, decide_eq_true_eq, List.all_eq_true] at h
  exact ⟨h.1, fun c hc => by have := h.2 c hc; simpa [lightC] using this⟩

set_option maxHeartbeats 1000000 in
theorem heavy_certs (A : Option Addr) (c : Nat) (l : List Ct) (B : Nat) (w : World) (hh : HasCerts w B A l) :
    Calls Tryz.prog 37 #[.slice A l.length c] w fun e w' => e = .returned (.bool (heavyC l)) ∧ w = w' := by
  have HH := Lib.hid hh
  clear hh
  by_cases hlen : 20 < l.length
  · have HE := Lib.hid (heavyC_len hlen)
    go_enter Tryz.func37, Tryz.ntmps37
    go_wp2
    go_ret
    exact ⟨by rw [HE.out]; rfl, rfl⟩
  · have hle : l.length ≤ 20 := by omega
    go_enter Tryz.func37, Tryz.ntmps37
    go_wp2
    go_loop [3] (fun x => ∃ k : Nat, x = .int .i64 k ∧ k ≤ l.length ∧ Hid ((l.take k).all lightC = true)) (fun x => l.length - (intOf x).toNat)
    case atStart => exact ⟨0, rfl, Nat.zero_le _, rfl⟩
    case round =>
      obtain ⟨k, rfl, hk, HT⟩ := hrel
      by_cases hlt : k < l.length
      · obtain ⟨ad, x, rfl, _, hx, ix, c0, c1, c2, c3, c4⟩ := HH.out.at hlt
        have HX := Lib.hid hx
        clear hx
        by_cases h1 : 12 < x.c.bt.length
        · have HE := Lib.hid (heavyC_one hlt (by rw [← HX.out]; simp [lightC]; omega))
          go_wp2
          go_ret
          exact ⟨by rw [HE.out]; rfl, rfl⟩
        · have h1' : x.c.bt.length ≤ 12 := by omega
          by_cases h2 : 30 < x.c.vs.length
          · have HE := Lib.hid (heavyC_one hlt (by rw [← HX.out]; simp [lightC]; omega))
            go_wp2
            go_ret
            exact ⟨by rw [HE.out]; rfl, rfl⟩
          · have h2' : x.c.vs.length ≤ 30 := by omega
            have HE := Lib.hid (all_more hlt HT.out (by rw [← HX.out]; simp [lightC]; omega))
            go_wp2
            go_round
            case rel => exact ⟨k + 1, by go_num, by omega, HE.out⟩
            case measure => simp [intOf]; omega
      · have hke : k = l.length := by omega
        subst hke
        have HE := Lib.hid (heavyC_no hle HT.out)
        go_wp2
        go_ret
        exact ⟨by rw [HE.out]; rfl, rfl⟩
end Go.Proofs.YtbegjadohamkkaaGreat
/- Plain: how many fields a light list has. -/
namespace Go.Proofs.YtbegjadohamkkaaGreat

theorem flatMap_le {α β : Type} {f : α → List β} {s : Nat} : ∀ {l : List α}, (∀ x ∈ l, (f x).length ≤ s) → (l.flatMap f).length ≤ l.length * s
  | [], _ => by simp
  | x :: l, h => by
    have h1 := h x (List.mem_cons_self ..)
    have h2 := flatMap_le (l := l) fun y hy => h y (List.mem_cons_of_mem _ hy)
    rw [List.flatMap_cons, List.length_append, List.length_cons, Nat.succ_mul]
    omega
theorem reqs_toks (l : List Rq) : (listToks Rq.toks l).length = 1 + 6 * l.length := by
  have h2 : (l.flatMap Rq.toks).length = l.length * 6 := flatMap_len (s := 6) (f := Rq.toks) (fun _ => rfl) _
  simp [listToks, h2]; omega
theorem votes_toks (l : List Vt) : (listToks Vt.toks l).length = 1 + 2 * l.length := by
  have h2 : (l.flatMap Vt.toks).length = l.length * 2 := flatMap_len (s := 2) (f := Vt.toks) (fun _ => rfl) _
  simp [listToks, h2]; omega
theorem cert_toks (c : Ct) : c.toks.length = 5 + 6 * c.bt.length + 2 * c.vs.length := by
  simp [Ct.toks, reqs_toks, votes_toks]; omega
theorem part_toks (p : Pt) : p.toks.length = 3 + 2 * p.vs.length + (listToks Ct.toks p.cs).length := by
  simp [Pt.toks, votes_toks]; omega
theorem certs_toks {l : List Ct} (h : heavyC l = false) : (listToks Ct.toks l).length ≤ 2741 := by
  obtain ⟨h1, h2⟩ := light_of h
  have h3 : (l.flatMap Ct.toks).length ≤ l.length * 137 := flatMap_le fun c hc => by
    have := h2 c hc
    rw [cert_toks]; omega
  have h4 : l.length * 137 ≤ 20 * 137 := Nat.mul_le_mul_right _ h1
  simp only [listToks, List.length_cons]
  omega
end Go.Proofs.YtbegjadohamkkaaGreat
/- The contracts of the document's own Eye: a number, a list's length. -/
namespace Go.Proofs.YtbegjadohamkkaaGreat
open Go.RowKit

theorem quiet_left {P : Program} {f : FuncId} {args : Array Value} {w : World} {n : Nat} {v : Value}
    (h : Calls P f args (w.drewN n) fun e w' => e = .returned v ∧ w.drewN n = w') : Calls P f args (w.drewN n) fun e w'' => e = .returned v ∧ ∃ m, w'' = w.drewN m :=
  h.mono fun _ _ ⟨he, hm⟩ => ⟨he, n, hm.symm⟩
/-- Only block g has changed, and what is new. -/
structure Only (g : Nat) (w w' : World) : Prop where
  os : w'.os = w.os
  tape : w'.tape = w.tape
  output : w'.output = w.output
  size : w.heap.size ≤ w'.heap.size
  block : ∀ k, k < w.heap.size → k ≠ g → w'.heap[k]? = w.heap[k]?
section
variable {g : Nat} {a b c : World}
theorem Only.refl (g : Nat) (w : World) : Only g w w := ⟨rfl, rfl, rfl, Nat.le_refl _, fun _ _ _ => rfl⟩
theorem Only.trans (h : Only g a b) (k : Only g b c) : Only g a c :=
  ⟨k.os.trans h.os, k.tape.trans h.tape, k.output.trans h.output, Nat.le_trans h.size k.size, fun i hi hg => (k.block i (Nat.lt_of_lt_of_le hi h.size) hg).trans (h.block i hi hg)⟩
theorem Only.drewN (h : Only g a b) (n : Nat) : Only g a (b.drewN n) := ⟨h.os, h.tape, h.output, h.size, h.block⟩
theorem Only.set_ (h : Only g a b) (i : Nat) (u : Value) : Only g a (b.setCell ⟨g, i, none⟩ u) := h.trans ⟨rfl, rfl, rfl, by simp, fun k _ hk => Below.heap_setCell b _ u k hk⟩
theorem Only.alloc (h : Only g a b) (o : Obj) : Only g a (b.alloc o) := h.trans ⟨rfl, rfl, rfl, by simp, fun k hk _ => Below.heap_alloc b o k hk⟩
theorem Only.below {B : Nat} (h : Only g a b) (hB : B ≤ g) (hs : B ≤ a.heap.size) : Below B a b := ⟨h.os, h.tape, h.output, h.size, fun k hk => h.block k (by omega) (by omega)⟩
theorem Only.of_below (h : Below a.heap.size a b) : Only g a b := ⟨h.os, h.tape, h.output, h.size, fun k hk _ => h.block k hk⟩
theorem Only.grown (h : Only g a b) {row : Option Nat} (hg : b.grownBy c row) (hr : ∀ k, row = some k → a.heap.size ≤ k ∨ k = g) : Only g a c :=
  ⟨hg.os.trans h.os, hg.tape.trans h.tape, hg.output.trans h.output, Nat.le_trans h.size hg.size, fun k hk hkg => (hg.block k (Nat.lt_of_lt_of_le hk h.size) (fun he => by rcases hr k he.symm with h1 | h1 <;> omega)).trans (h.block k hk hkg)⟩
theorem Only.blk (h : Only g a b) {k : Nat} {t : TypeId} {cs : Array Value} (hb : Blk a k t cs) (hk : k ≠ g) : Blk b k t cs := (h.block k hb.lt hk).trans hb
theorem Only.own (h : Only g a b) {base n s : Nat} {e : TypeId} {v : Value} {xs : List Value} (ho : a.ownsRow base e s v n xs) (hg : v.ownBlock ≠ some g) : b.ownsRow base e s v n xs := by
  refine ⟨ho.1, ?_⟩
  rcases ho.2 with h2 | ⟨g', cap, cur, hv, hb, hh, r⟩
  · exact Or.inl h2
  · have hlt := (ho.lt g' (by rw [hv]; rfl)).2
    exact Or.inr ⟨g', cap, cur, hv, hb, (h.block g' hlt (fun he => hg (by rw [hv, ← he]; rfl))).trans hh, r⟩
theorem Only.has (h : Only g a b) {A : Option Addr} {xs : List Value} {B : Nat} (hh : Has a B A xs) (hg : ∀ ad, A = some ad → ad.block ≠ g) : Has b B A xs := fun j u hj => by
  obtain ⟨ad, e, hlt, hc⟩ := hh j u hj
  refine ⟨ad, e, hlt, (World.cell?_of_block (w := a) ?_).trans hc⟩
  rw [addr_block]
  have := block_lt hc
  rw [addr_block] at this
  exact h.block ad.block this (hg ad e)
end

/-- Block g is an Eye over the bytes X, at a place, or bad. -/
def EyeHas (w : World) (g : Nat) (X : Value) (st : Option Int) : Prop :=
  ∃ (p : Int) (bad : Bool), Blk w g 186 #[X, .int .i64 p, .bool bad] ∧ p ≤ 9223372036854775807 ∧ ((st = some p ∧ bad = false) ∨ (st = none ∧ bad = true))
/-- What a taker does to the state, and what it gives. -/
def Eyed {α : Type} (f : Tkr α) (st st' : Option Int) (x : α) : Prop := match st with
  | none => st' = none
  | some p => match f p with
    | some (y, k) => st' = some k ∧ x = y
    | none => st' = none
theorem EyeHas.only {w w' : World} {g g' : Nat} {X : Value} {st : Option Int} (h : EyeHas w g X st) (ho : Only g' w w') (hg : g ≠ g') : EyeHas w' g X st := by
  obtain ⟨p, bad, h1, h2⟩ := h
  exact ⟨p, bad, ho.blk h1 hg, h2⟩
theorem EyeHas.lt {w : World} {g : Nat} {X : Value} {st : Option Int} (h : EyeHas w g X st) : g < w.heap.size := by
  obtain ⟨p, bad, h1, h2⟩ := h
  exact h1.lt
/-- What a call of the Eye's for a number does. -/
def NumSeen (f : Tkr Int) (g : Nat) (X : Value) (st : Option Int) (w : World) (e : Ending) (w' : World) : Prop :=
  ∃ (n : Int) (st' : Option Int), e = .returned (.int .i64 n) ∧ Eyed f st st' n ∧ EyeHas w' g X st' ∧ Only g w w' ∧ w'.heap.size = w.heap.size ∧ 0 ≤ n ∧ n ≤ 1099511627775

set_option maxHeartbeats 1000000 in
set_option maxRecDepth 100000 in
theorem eye_number (A : Option Addr) (cap : Nat) (zs : List Int) (B g : Nat) (st : Option Int) (hl : zs.length ≤ 9223372036854775806) (hz : ∀ z ∈ zs, 0 ≤ z ∧ z ≤ 255) (w : World) (he : EyeHas w g (.slice A zs.length cap) st) (hh : Has w B A (u8s zs)) :
    Calls Tryz.prog 150 #[.pointer (some ⟨g, 0, none⟩)] w (NumSeen (tkNum zs) g (.slice A zs.length cap) st w) := by
  obtain ⟨p, bad, hb, hp, hs⟩ := he
  have ce0 : w.cell? ⟨g, 0, none⟩ = some (.slice A zs.length cap) := hb.cell 0
  have ce1 : w.cell? ⟨g, 1, none⟩ = some (.int .i64 p) := hb.cell 1
  have ce2 : w.cell? ⟨g, 2, none⟩ = some (.bool bad) := hb.cell 2
  have fr1 := hb.frozen 1
  have fr2 := hb.frozen 2
  have HB := Lib.hid hb
  have HH := Lib.hid hh
  rcases hs with ⟨rfl, rfl⟩ | ⟨rfl, rfl⟩
  · have HC := Lib.hid (fun w h => reftake_any A cap zs B p w hl hp hz h)
    rcases tk_cases zs p hz with ⟨h1, h2⟩ | ⟨m, q, k, hpq, h1, h2, _, h3, h4, _⟩
    · rw [h2] at HC
      have HCc := Lib.hid (show ∀ w, Has w B A (u8s zs) → Calls Tryz.prog 112 #[.slice A zs.length cap, .int .i64 p] w fun e w' => e = .returned (.tuple #[.int .i64 0, .int .i64 0, .bool false]) ∧ w = w' from HC.out)
      have HF := Lib.hid (show Eyed (tkNum zs) (some p) none 0 by simp [Eyed, tkNum, h1])
      clear hb hh h1 h2 HC hz
      go_enter Tryz.func150, Tryz.ntmps150
      go_wp2
      go_quiet ((go_at_call 112; exact quiet_left (HCc.out _ (HH.out.drewN _))))
      go_wp2
      go_ret
      refine ⟨0, none, rfl, HF.out, ⟨0, true, ((HB.out.drewN _).set_ 2 (.bool true)).set_ 1 (.int .i64 0), by omega, Or.inr ⟨rfl, rfl⟩⟩, (((Only.refl g w).drewN _).set_ 2 _).set_ 1 _, by simp, by omega, by omega⟩
    · subst hpq
      rw [h2] at HC
      have HCc := Lib.hid (show ∀ w, Has w B A (u8s zs) → Calls Tryz.prog 112 #[.slice A zs.length cap, .int .i64 (q : Int)] w fun e w' => e = .returned (.tuple #[.int .i64 m, .int .i64 k, .bool true]) ∧ w = w' from HC.out)
      have HF := Lib.hid (show Eyed (tkNum zs) (some (q : Int)) (some (k : Int)) (m : Int) by simp [Eyed, tkNum, h1])
      clear hb hh h1 h2 HC hz
      go_enter Tryz.func150, Tryz.ntmps150
      go_wp2
      go_quiet ((go_at_call 112; exact quiet_left (HCc.out _ (HH.out.drewN _))))
      go_wp2
      go_ret
      refine ⟨m, some k, rfl, HF.out, ⟨k, false, ((HB.out.drewN _).set_ 2 (.bool false)).set_ 1 (.int .i64 k), by omega, Or.inl ⟨rfl, rfl⟩⟩, (((Only.refl g w).drewN _).set_ 2 _).set_ 1 _, by simp, by omega, by omega⟩
  · clear hb hh
    go_enter Tryz.func150, Tryz.ntmps150
    go_wp2
    go_ret
    exact ⟨0, none, rfl, rfl, ⟨p, true, HB.out, hp, Or.inr ⟨rfl, rfl⟩⟩, Only.refl _ _, rfl, by omega, by omega⟩
end Go.Proofs.YtbegjadohamkkaaGreat
/- The contracts of the document's own Eye: a list's length, a request, votes. -/
namespace Go.Proofs.YtbegjadohamkkaaGreat
open Go.RowKit

section
variable {g : Nat} {a b : World} {st : Option Int} {X : Value}
theorem Only.hasB {A : Option Addr} {xs : List Value} {B : Nat} (h : Only g a b) (hB : B ≤ g) (hh : Has a B A xs) : Has b B A xs := fun j u hj => by
  obtain ⟨ad, e, hlt, hc⟩ := hh j u hj
  refine ⟨ad, e, hlt, (World.cell?_of_block (w := a) ?_).trans hc⟩
  rw [addr_block]
  have := block_lt hc
  rw [addr_block] at this
  exact h.block ad.block this (by omega)
theorem EyeHas.alloc (h : EyeHas a g X st) (o : Obj) : EyeHas (a.alloc o) g X st := by
  obtain ⟨p, bad, h1, h2⟩ := h
  exact ⟨p, bad, h1.alloc o, h2⟩
theorem EyeHas.far (h : EyeHas a g X st) {p : Addr} (hp : g ≠ p.block) (u : Value) : EyeHas (a.setCell p u) g X st := by
  obtain ⟨p', bad, h1, h2⟩ := h
  exact ⟨p', bad, h1.far hp u, h2⟩
theorem EyeHas.grown {row : Option Nat} (h : EyeHas a g X st) (hb : a.grownBy b row) (hg : some g ≠ row) : EyeHas b g X st := by
  obtain ⟨p', bad, h1, h2⟩ := h
  exact ⟨p', bad, h1.grown hb hg, h2⟩
theorem EyeHas.below {B : Nat} (h : EyeHas a g X st) (hb : Below B a b) (hg : g < B) : EyeHas b g X st := by
  obtain ⟨p', bad, h1, h2⟩ := h
  exact ⟨p', bad, h1.below hb hg, h2⟩
theorem EyeHas.bad (h : EyeHas a g X none) : a.cell? ⟨g, 2, none⟩ = some (.bool true) := by
  obtain ⟨p', bad, h1, _, h2⟩ := h
  rcases h2 with ⟨h2, _⟩ | ⟨_, rfl⟩
  · cases h2
  · exact h1.cell 2
theorem EyeHas.good {q : Int} (h : EyeHas a g X (some q)) : a.cell? ⟨g, 2, none⟩ = some (.bool false) ∧ a.cell? ⟨g, 1, none⟩ = some (.int .i64 q) := by
  obtain ⟨p', bad, h1, _, h2⟩ := h
  rcases h2 with ⟨h2, rfl⟩ | ⟨h2, _⟩
  · cases h2
    exact ⟨h1.cell 2, h1.cell 1⟩
  · cases h2
end

section
variable {α β : Type} {f : Tkr α} {st st1 st2 : Option Int} {x : α} {y : β}
theorem Eyed.pure (x : α) (st : Option Int) : Eyed (fun j => some (x, j)) st st x := by cases st <;> simp [Eyed]
theorem Eyed.bind {g : α → Tkr β} (h : Eyed f st st1 x) (k : Eyed (g x) st1 st2 y) : Eyed (fun i => (f i).bind fun a => g a.1 a.2) st st2 y := by
  cases st with
  | none =>
    simp only [Eyed] at h
    subst h
    exact k
  | some p =>
    simp only [Eyed] at h ⊢
    cases hf : f p with
    | none =>
      rw [hf] at h
      simp only at h
      subst h
      exact k
    | some v =>
      rw [hf] at h
      obtain ⟨rfl, rfl⟩ := h
      exact k
/-- What stands still to be read at a list's next thing. -/
def Rest (F : Tkr (List α)) (f : Tkr α) (st0 st : Option Int) (done : List α) (n : Nat) : Prop := match st0 with
  | none => st = none
  | some p => match st with
    | some q => F p = restOf f done n q
    | none => F p = none
theorem Rest.start {zs : List Int} {n : Nat} (h : Eyed (tkLen zs) st st1 n) : Rest (tkList zs f) f st st1 [] n := by
  cases st with
  | none => exact h
  | some p =>
    simp only [Eyed] at h
    cases hf : tkLen zs p with
    | none =>
      rw [hf] at h
      simp only at h
      subst h
      simp [Rest, tkList, hf]
    | some v =>
      rw [hf] at h
      obtain ⟨rfl, rfl⟩ := h
      exact list_rest hf
theorem Rest.step {F : Tkr (List α)} {q : Int} {done : List α} {n : Nat} (h : Rest F f st (some q) done (n + 1)) (k : Eyed f (some q) st1 x) : Rest F f st st1 (done ++ [x]) n := by
  cases st with
  | none => cases h
  | some p =>
    simp only [Rest] at h
    simp only [Eyed] at k
    cases hf : f q with
    | none =>
      rw [hf] at k
      simp only at k
      subst k
      exact h.trans (restOf_none hf)
    | some v =>
      rw [hf] at k
      obtain ⟨rfl, rfl⟩ := k
      exact h.trans (restOf_some hf)
theorem Rest.end_ {F : Tkr (List α)} {q : Int} {done : List α} (h : Rest F f st (some q) done 0) : Eyed F st (some q) done := by
  cases st with
  | none => cases h
  | some p =>
    have h1 : F p = some (done, q) := h.trans (restOf_zero f done q)
    simp only [Eyed, h1, and_self]
theorem Rest.bad {F : Tkr (List α)} {done : List α} {n : Nat} (h : Rest F f st none done n) : Eyed F st none done := by
  cases st with
  | none => rfl
  | some p =>
    have h1 : F p = none := h
    simp only [Eyed, h1]
end
theorem eyed_num_cases {zs : List Int} {p n : Int} {st1 : Option Int} (h : Eyed (tkNum zs) (some p) st1 n) : (tk zs p = none ∧ st1 = none) ∨ ∃ v, tk zs p = some v ∧ st1 = some ((v.2 : Nat) : Int) ∧ n = ((v.1 : Nat) : Int) := by
  cases hf : tk zs p with
  | none =>
    have e : tkNum zs p = none := by simp only [tkNum, hf]
    simp only [Eyed, e] at h
    exact Or.inl ⟨rfl, h⟩
  | some v =>
    have e : tkNum zs p = some ((v.1 : Int), (v.2 : Int)) := by simp only [tkNum, hf]
    simp only [Eyed, e] at h
    exact Or.inr ⟨v, rfl, h.1, h.2⟩
theorem eyed_len {zs : List Int} {st : Option Int} {q n : Int} (h : Eyed (tkNum zs) st (some q) n) (hn : n ≤ 256) : Eyed (tkLen zs) st (some q) n.toNat := by
  cases st with
  | none => cases h
  | some p =>
    rcases eyed_num_cases h with ⟨_, h2⟩ | ⟨v, h1, h2, rfl⟩
    · cases h2
    · have e : tkLen zs p = some (v.1, ((v.2 : Nat) : Int)) := by simp only [tkLen, h1, if_pos (show v.1 ≤ 256 by omega)]
      simp only [Eyed, e]
      exact ⟨h2, by simp⟩
theorem eyed_long {zs : List Int} {st : Option Int} {q n : Int} (h : Eyed (tkNum zs) st (some q) n) (hn : 256 < n) : Eyed (tkLen zs) st none 0 := by
  cases st with
  | none => rfl
  | some p =>
    rcases eyed_num_cases h with ⟨_, h2⟩ | ⟨v, h1, h2, rfl⟩
    · cases h2
    · have e : tkLen zs p = none := by simp only [tkLen, h1, if_neg (show ¬ v.1 ≤ 256 by omega)]
      simp only [Eyed, e]
theorem eyed_none {zs : List Int} {st : Option Int} {n : Int} (h : Eyed (tkNum zs) st none n) : Eyed (tkLen zs) st none 0 := by
  cases st with
  | none => rfl
  | some p =>
    rcases eyed_num_cases h with ⟨h1, _⟩ | ⟨v, h1, h2, rfl⟩
    · have e : tkLen zs p = none := by simp only [tkLen, h1]
      simp only [Eyed, e]
    · cases h2

/-- What a call of the Eye's for a list's length does. -/
def LenSeen (zs : List Int) (g : Nat) (X : Value) (st : Option Int) (w : World) (e : Ending) (w' : World) : Prop :=
  ∃ (n : Nat) (st' : Option Int), e = .returned (.int .i64 n) ∧ n ≤ 256 ∧ Eyed (tkLen zs) st st' n ∧ EyeHas w' g X st' ∧ Only g w w' ∧ w'.heap.size = w.heap.size
set_option maxHeartbeats 1000000 in
set_option maxRecDepth 100000 in
theorem eye_list (A : Option Addr) (cap : Nat) (zs : List Int) (B g : Nat) (st : Option Int) (hl : zs.length ≤ 9223372036854775806) (hz : ∀ z ∈ zs, 0 ≤ z ∧ z ≤ 255) (w : World) (he : EyeHas w g (.slice A zs.length cap) st) (hh : Has w B A (u8s zs)) :
    Calls Tryz.prog 177 #[.pointer (some ⟨g, 0, none⟩)] w (LenSeen zs g (.slice A zs.length cap) st w) := by
  have HN := Lib.hid (eye_number A cap zs B g st hl hz w he hh)
  clear he hh hz hl
  go_enter Tryz.func177, Tryz.ntmps177
  go_wp2_with fail
  refine HN.out.mono ?_
  rintro e w1 ⟨n, st1, rfl, hf, ⟨p, bad, hb, hp, hs⟩, ho, hsz, hn0, hn1⟩
  have ce2 : w1.cell? ⟨g, 2, none⟩ = some (.bool bad) := hb.cell 2
  have fr2 := hb.frozen 2
  have HB := Lib.hid hb
  have HO := Lib.hid ho
  clear hb ho HN
  rcases hs with ⟨rfl, rfl⟩ | ⟨rfl, rfl⟩
  · by_cases h : n ≤ 256
    · obtain ⟨m, rfl⟩ : ∃ m : Nat, n = m := ⟨n.toNat, by omega⟩
      have HF := Lib.hid (eyed_len hf h)
      have dd : decide ((m : Int) > 256) = false := by simp; omega
      clear hf
      go_wp2_with fail
      go_ret
      exact ⟨m, some p, rfl, by omega, by simpa using HF.out, ⟨p, false, HB.out.set_ 2 (.bool false), hp, Or.inl ⟨rfl, rfl⟩⟩, HO.out.set_ 2 _, by simpa using hsz⟩
    · have HF := Lib.hid (eyed_long hf (by omega))
      have dd : decide (n > 256) = true := by simp; omega
      clear hf
      go_wp2_with fail
      go_ret
      exact ⟨0, none, rfl, by omega, HF.out, ⟨p, true, HB.out.set_ 2 (.bool true), hp, Or.inr ⟨rfl, rfl⟩⟩, HO.out.set_ 2 _, by simpa using hsz⟩
  · have HF := Lib.hid (eyed_none hf)
    clear hf
    go_wp2_with fail
    go_ret
    exact ⟨0, none, rfl, by omega, HF.out, ⟨p, true, HB.out.set_ 2 (.bool true), hp, Or.inr ⟨rfl, rfl⟩⟩, HO.out.set_ 2 _, by simpa using hsz⟩

/-- A round of a list's loop: the Eye, the row that grows, the variable's block. -/
structure Eyg (T : TypeId) (s g : Nat) (X : Value) (w W : World) (b : Nat) (L : Value) (n : Nat) (xs : List Value) (cs : Array Value) (st : Option Int) : Prop where
  only : Only g w W
  eye : EyeHas W g X st
  row : W.ownsRow w.heap.size T s L n xs
  blk : Blk W b T cs
  hg : g < w.heap.size
  hb : w.heap.size ≤ b
  hL : L.ownBlock ≠ some b
section
variable {T : TypeId} {s g n b : Nat} {X : Value} {w W W' : World} {L : Value} {xs : List Value} {cs : Array Value} {st st' : Option Int}
theorem Eyg.new (ho : Only g w W) (he : EyeHas W g X st) (hr : W.ownsRow w.heap.size T s L n xs) (hg : g < w.heap.size) (cs : Array Value) : Eyg T s g X w (W.alloc (.cells cs T)) W.heap.size L n xs cs st :=
  ⟨ho.alloc _, he.alloc _, hr.alloc _, Blk.new _ _ _, hg, ho.size, fun h => by have := (hr.lt _ h).2; omega⟩
theorem Eyg.set_ (h : Eyg T s g X w W b L n xs cs st) (i : Nat) (v : Value) : Eyg T s g X w (W.setCell ⟨b, i, none⟩ v) b L n xs (cs.setIfInBounds i v) st :=
  ⟨⟨h.only.os, h.only.tape, h.only.output, by simpa using h.only.size, fun k hk hne => (Below.heap_setCell W _ v k (by have := h.hb; simp; omega)).trans (h.only.block k hk hne)⟩, h.eye.far (by have := h.hg; have := h.hb; simp; omega) v, own_far h.row (p := ⟨b, i, none⟩) h.hL v, h.blk.set_ i v, h.hg, h.hb, h.hL⟩
theorem Eyg.call (h : Eyg T s g X w W b L n xs cs st) (ho : Only g W W') (he : EyeHas W' g X st') : Eyg T s g X w W' b L n xs cs st' :=
  ⟨h.only.trans ho, he, ho.own h.row (own_blk_lt h.row h.hg), ho.blk h.blk (by have := h.hg; have := h.hb; omega), h.hg, h.hb, h.hL⟩
theorem Eyg.app (h : Eyg T s g X w W b L n xs cs st) {o : Obj} (hgr : (W.alloc o).grownBy W' L.ownBlock) : Only g w W' ∧ EyeHas W' g X st :=
  ⟨(h.only.alloc o).grown hgr (fun k hk => Or.inl (h.row.lt k hk).1), (h.eye.alloc o).grown hgr (fun he => own_blk_lt h.row h.hg he.symm)⟩
theorem Eyg.cell (h : Eyg T s g X w W b L n xs cs st) (i : Nat) : W.cell? ⟨b, i, none⟩ = cs[i]? := h.blk.cell i
theorem Eyg.frozen (h : Eyg T s g X w W b L n xs cs st) (i : Nat) : W.frozen? ⟨b, i, none⟩ = false := h.blk.frozen i
end
end Go.Proofs.YtbegjadohamkkaaGreat
/- The contract of the document's own Eye for a request. -/
namespace Go.Proofs.YtbegjadohamkkaaGreat
open Go.RowKit

theorem eyed_sgn {zs : List Int} {st st1 : Option Int} {n : Int} (h : Eyed (tkNum zs) st st1 n) : Eyed (tkSgn zs) st st1 (zagS n) := by
  cases st with
  | none => exact h
  | some p =>
    rcases eyed_num_cases h with ⟨h1, rfl⟩ | ⟨v, h1, rfl, rfl⟩
    · have e : tkSgn zs p = none := by simp only [tkSgn, h1]
      simp only [Eyed, e]
    · have e : tkSgn zs p = some (zagS (v.1 : Int), ((v.2 : Nat) : Int)) := by simp only [tkSgn, h1]
      simp only [Eyed, e, and_self]
theorem eyed_req {zs : List Int} {s0 s1 s2 s3 s4 s5 s6 : Option Int} {a0 a1 a2 a3 a4 a5 : Int} (h0 : Eyed (tkNum zs) s0 s1 a0) (h1 : Eyed (tkNum zs) s1 s2 a1) (h2 : Eyed (tkNum zs) s2 s3 a2) (h3 : Eyed (tkSgn zs) s3 s4 a3) (h4 : Eyed (tkSgn zs) s4 s5 a4) (h5 : Eyed (tkNum zs) s5 s6 a5) : Eyed (tkReq zs) s0 s6 ⟨a0, a1, a2, a3, a4, a5⟩ :=
  Eyed.bind (g := fun x0 j => (tkNum zs j).bind fun y1 => (tkNum zs y1.2).bind fun y2 => (tkSgn zs y2.2).bind fun y3 => (tkSgn zs y3.2).bind fun y4 => (tkNum zs y4.2).bind fun y5 => some ((⟨x0, y1.1, y2.1, y3.1, y4.1, y5.1⟩ : Rq), y5.2)) h0 (Eyed.bind (g := fun x1 j => (tkNum zs j).bind fun y2 => (tkSgn zs y2.2).bind fun y3 => (tkSgn zs y3.2).bind fun y4 => (tkNum zs y4.2).bind fun y5 => some ((⟨a0, x1, y2.1, y3.1, y4.1, y5.1⟩ : Rq), y5.2)) h1 (Eyed.bind (g := fun x2 j => (tkSgn zs j).bind fun y3 => (tkSgn zs y3.2).bind fun y4 => (tkNum zs y4.2).bind fun y5 => some ((⟨a0, a1, x2, y3.1, y4.1, y5.1⟩ : Rq), y5.2)) h2 (Eyed.bind (g := fun x3 j => (tkSgn zs j).bind fun y4 => (tkNum zs y4.2).bind fun y5 => some ((⟨a0, a1, a2, x3, y4.1, y5.1⟩ : Rq), y5.2)) h3 (Eyed.bind (g := fun x4 j => (tkNum zs j).bind fun y5 => some ((⟨a0, a1, a2, a3, x4, y5.1⟩ : Rq), y5.2)) h4 (Eyed.bind (g := fun x5 j => some ((⟨a0, a1, a2, a3, a4, x5⟩ : Rq), j)) h5 (Eyed.pure (⟨a0, a1, a2, a3, a4, a5⟩ : Rq) s6))))))
theorem Only.new_ {g : Nat} {w W : World} (h : Only g w W) {p : Addr} (hb : w.heap.size ≤ p.block) (v : Value) : Only g w (W.setCell p v) :=
  ⟨h.os, h.tape, h.output, by simpa using h.size, fun k hk hne => (Below.heap_setCell W p v k (by omega)).trans (h.block k hk hne)⟩
theorem only_six {g b : Nat} {w W : World} (h : Only g w W) (hb : w.heap.size ≤ b) (b0 b1 b2 b3 b4 b5 : Value) : Only g w (W.setCells b 0 [b0, b1, b2, b3, b4, b5]) :=
  (((((h.new_ (p := ⟨b, 0, none⟩) hb b0).new_ (p := ⟨b, 1, none⟩) hb b1).new_ (p := ⟨b, 2, none⟩) hb b2).new_ (p := ⟨b, 3, none⟩) hb b3).new_ (p := ⟨b, 4, none⟩) hb b4).new_ (p := ⟨b, 5, none⟩) hb b5
theorem eye_six {g b : Nat} {W : World} {X : Value} {st : Option Int} (h : EyeHas W g X st) (hb : g ≠ b) (b0 b1 b2 b3 b4 b5 : Value) : EyeHas (W.setCells b 0 [b0, b1, b2, b3, b4, b5]) g X st :=
  (((((h.far (p := ⟨b, 0, none⟩) hb b0).far (p := ⟨b, 1, none⟩) hb b1).far (p := ⟨b, 2, none⟩) hb b2).far (p := ⟨b, 3, none⟩) hb b3).far (p := ⟨b, 4, none⟩) hb b4).far (p := ⟨b, 5, none⟩) hb b5
/-- What a call of the Eye's for a request does. -/
def ReqSeen (zs : List Int) (g : Nat) (X : Value) (st : Option Int) (w : World) (e : Ending) (w' : World) : Prop :=
  ∃ (r : Rq) (st' : Option Int), e = .returned (.agg #[.int .i64 r.cl, .int .i64 r.tm, .int .i64 r.kd, .int .i64 r.ky, .int .i64 r.vl, .int .i64 r.sg]) ∧ Eyed (tkReq zs) st st' r ∧ EyeHas w' g X st' ∧ Only g w w'
set_option maxHeartbeats 2000000 in
set_option maxRecDepth 100000 in
theorem eye_req (A : Option Addr) (cap : Nat) (zs : List Int) (B g : Nat) (st : Option Int) (hl : zs.length ≤ 9223372036854775806) (hz : ∀ z ∈ zs, 0 ≤ z ∧ z ≤ 255) (w : World) (hB : B ≤ g) (he : EyeHas w g (.slice A zs.length cap) st) (hh : Has w B A (u8s zs)) :
    Calls Tryz.prog 178 #[.pointer (some ⟨g, 0, none⟩)] w (ReqSeen zs g (.slice A zs.length cap) st w) := by
  have hg := he.lt
  have HN := Lib.hid (fun w st he hh => eye_number A cap zs B g st hl hz w he hh)
  have HH := Lib.hid hh
  have he0 := (Eyg.new (T := 69) (s := 6) ((Only.refl g w).alloc (.cells #[.int .i64 0, .int .i64 0, .int .i64 0, .int .i64 0, .int .i64 0, .int .i64 0] 69)) (he.alloc _) (World.ownsRow_nil _ _ _ _) hg #[.int .i64 0, .int .i64 0, .int .i64 0, .int .i64 0, .int .i64 0, .int .i64 0])
  rw [World.size_alloc] at he0
  have HE0 := Lib.hid he0
  have HR0 := Lib.hid ((Blk.new w 69 #[.int .i64 0, .int .i64 0, .int .i64 0, .int .i64 0, .int .i64 0, .int .i64 0]).alloc (.cells #[.int .i64 0, .int .i64 0, .int .i64 0, .int .i64 0, .int .i64 0, .int .i64 0] 69))
  clear he hh hz hl he0
  go_enter Tryz.func178, Tryz.ntmps178
  go_wp2_with fail
  refine (HN.out _ st HE0.out.eye (HE0.out.only.hasB hB HH.out)).mono ?_
  rintro e w1 ⟨n0, s1, rfl, hf, he, ho, hsz, _, _⟩
  have HF0 := Lib.hid hf
  have hc0 := HE0.out.call ho he
  have hr0 := ho.blk HR0.out (by omega)
  have HC0 := Lib.hid hc0
  have ce0_0 : w1.cell? ⟨w.heap.size + 1, 0, none⟩ = some (.int .i64 0) := by simpa using hc0.cell 0
  have ce0_1 : w1.cell? ⟨w.heap.size + 1, 1, none⟩ = some (.int .i64 0) := by simpa using hc0.cell 1
  have ce0_2 : w1.cell? ⟨w.heap.size + 1, 2, none⟩ = some (.int .i64 0) := by simpa using hc0.cell 2
  have ce0_3 : w1.cell? ⟨w.heap.size + 1, 3, none⟩ = some (.int .i64 0) := by simpa using hc0.cell 3
  have ce0_4 : w1.cell? ⟨w.heap.size + 1, 4, none⟩ = some (.int .i64 0) := by simpa using hc0.cell 4
  have ce0_5 : w1.cell? ⟨w.heap.size + 1, 5, none⟩ = some (.int .i64 0) := by simpa using hc0.cell 5
  have fr0 : w1.frozen? ⟨w.heap.size + 1, 0, none⟩ = false := by simpa using hc0.frozen 0
  clear hf ho he hc0
  have HE1 := Lib.hid (HC0.out.set_ 0 (.int .i64 n0))
  have HR1 := Lib.hid (hr0.far (p := ⟨w.heap.size + 1, 0, none⟩) (by simp) (.int .i64 n0))
  clear hr0
  go_wp2_with fail
  refine (HN.out _ s1 HE1.out.eye (HE1.out.only.hasB hB HH.out)).mono ?_
  rintro e w2 ⟨n1, s2, rfl, hf, he, ho, hsz, _, _⟩
  have HF1 := Lib.hid hf
  have hc1 := HE1.out.call ho he
  have hr1 := ho.blk HR1.out (by omega)
  have HC1 := Lib.hid hc1
  have ce1_0 : w2.cell? ⟨w.heap.size + 1, 0, none⟩ = some (.int .i64 n0) := by simpa using hc1.cell 0
  have ce1_1 : w2.cell? ⟨w.heap.size + 1, 1, none⟩ = some (.int .i64 0) := by simpa using hc1.cell 1
  have ce1_2 : w2.cell? ⟨w.heap.size + 1, 2, none⟩ = some (.int .i64 0) := by simpa using hc1.cell 2
  have ce1_3 : w2.cell? ⟨w.heap.size + 1, 3, none⟩ = some (.int .i64 0) := by simpa using hc1.cell 3
  have ce1_4 : w2.cell? ⟨w.heap.size + 1, 4, none⟩ = some (.int .i64 0) := by simpa using hc1.cell 4
  have ce1_5 : w2.cell? ⟨w.heap.size + 1, 5, none⟩ = some (.int .i64 0) := by simpa using hc1.cell 5
  have fr1 : w2.frozen? ⟨w.heap.size + 1, 1, none⟩ = false := by simpa using hc1.frozen 1
  clear hf ho he hc1
  have HE2 := Lib.hid (HC1.out.set_ 1 (.int .i64 n1))
  have HR2 := Lib.hid (hr1.far (p := ⟨w.heap.size + 1, 1, none⟩) (by simp) (.int .i64 n1))
  clear hr1
  go_wp2_with fail
  refine (HN.out _ s2 HE2.out.eye (HE2.out.only.hasB hB HH.out)).mono ?_
  rintro e w3 ⟨n2, s3, rfl, hf, he, ho, hsz, _, _⟩
  have HF2 := Lib.hid hf
  have hc2 := HE2.out.call ho he
  have hr2 := ho.blk HR2.out (by omega)
  have HC2 := Lib.hid hc2
  have ce2_0 : w3.cell? ⟨w.heap.size + 1, 0, none⟩ = some (.int .i64 n0) := by simpa using hc2.cell 0
  have ce2_1 : w3.cell? ⟨w.heap.size + 1, 1, none⟩ = some (.int .i64 n1) := by simpa using hc2.cell 1
  have ce2_2 : w3.cell? ⟨w.heap.size + 1, 2, none⟩ = some (.int .i64 0) := by simpa using hc2.cell 2
  have ce2_3 : w3.cell? ⟨w.heap.size + 1, 3, none⟩ = some (.int .i64 0) := by simpa using hc2.cell 3
  have ce2_4 : w3.cell? ⟨w.heap.size + 1, 4, none⟩ = some (.int .i64 0) := by simpa using hc2.cell 4
  have ce2_5 : w3.cell? ⟨w.heap.size + 1, 5, none⟩ = some (.int .i64 0) := by simpa using hc2.cell 5
  have fr2 : w3.frozen? ⟨w.heap.size + 1, 2, none⟩ = false := by simpa using hc2.frozen 2
  clear hf ho he hc2
  have HE3 := Lib.hid (HC2.out.set_ 2 (.int .i64 n2))
  have HR3 := Lib.hid (hr2.far (p := ⟨w.heap.size + 1, 2, none⟩) (by simp) (.int .i64 n2))
  clear hr2
  go_wp2_with fail
  refine (HN.out _ s3 HE3.out.eye (HE3.out.only.hasB hB HH.out)).mono ?_
  rintro e w4 ⟨n3, s4, rfl, hf, he, ho, hsz, _, _⟩
  have HF3 := Lib.hid hf
  have hc3 := HE3.out.call ho he
  have hr3 := ho.blk HR3.out (by omega)
  have HC3 := Lib.hid hc3
  have ce3_0 : w4.cell? ⟨w.heap.size + 1, 0, none⟩ = some (.int .i64 n0) := by simpa using hc3.cell 0
  have ce3_1 : w4.cell? ⟨w.heap.size + 1, 1, none⟩ = some (.int .i64 n1) := by simpa using hc3.cell 1
  have ce3_2 : w4.cell? ⟨w.heap.size + 1, 2, none⟩ = some (.int .i64 n2) := by simpa using hc3.cell 2
  have ce3_3 : w4.cell? ⟨w.heap.size + 1, 3, none⟩ = some (.int .i64 0) := by simpa using hc3.cell 3
  have ce3_4 : w4.cell? ⟨w.heap.size + 1, 4, none⟩ = some (.int .i64 0) := by simpa using hc3.cell 4
  have ce3_5 : w4.cell? ⟨w.heap.size + 1, 5, none⟩ = some (.int .i64 0) := by simpa using hc3.cell 5
  have fr3 : w4.frozen? ⟨w.heap.size + 1, 3, none⟩ = false := by simpa using hc3.frozen 3
  have HZ3 := Lib.hid (fun w => refzag_any n3 w)
  clear hf ho he hc3
  go_wp2_with fail
  refine (HZ3.out _).mono ?_
  rintro e wz ⟨rfl, rfl⟩
  have HE4 := Lib.hid (HC3.out.set_ 3 (.int .i64 (zagS n3)))
  have HR4 := Lib.hid (hr3.far (p := ⟨w.heap.size + 1, 3, none⟩) (by simp) (.int .i64 (zagS n3)))
  clear hr3
  go_wp2_with fail
  refine (HN.out _ s4 HE4.out.eye (HE4.out.only.hasB hB HH.out)).mono ?_
  rintro e w5 ⟨n4, s5, rfl, hf, he, ho, hsz, _, _⟩
  have HF4 := Lib.hid hf
  have hc4 := HE4.out.call ho he
  have hr4 := ho.blk HR4.out (by omega)
  have HC4 := Lib.hid hc4
  have ce4_0 : w5.cell? ⟨w.heap.size + 1, 0, none⟩ = some (.int .i64 n0) := by simpa using hc4.cell 0
  have ce4_1 : w5.cell? ⟨w.heap.size + 1, 1, none⟩ = some (.int .i64 n1) := by simpa using hc4.cell 1
  have ce4_2 : w5.cell? ⟨w.heap.size + 1, 2, none⟩ = some (.int .i64 n2) := by simpa using hc4.cell 2
  have ce4_3 : w5.cell? ⟨w.heap.size + 1, 3, none⟩ = some (.int .i64 (zagS n3)) := by simpa using hc4.cell 3
  have ce4_4 : w5.cell? ⟨w.heap.size + 1, 4, none⟩ = some (.int .i64 0) := by simpa using hc4.cell 4
  have ce4_5 : w5.cell? ⟨w.heap.size + 1, 5, none⟩ = some (.int .i64 0) := by simpa using hc4.cell 5
  have fr4 : w5.frozen? ⟨w.heap.size + 1, 4, none⟩ = false := by simpa using hc4.frozen 4
  have HZ4 := Lib.hid (fun w => refzag_any n4 w)
  clear hf ho he hc4
  go_wp2_with fail
  refine (HZ4.out _).mono ?_
  rintro e wz ⟨rfl, rfl⟩
  have HE5 := Lib.hid (HC4.out.set_ 4 (.int .i64 (zagS n4)))
  have HR5 := Lib.hid (hr4.far (p := ⟨w.heap.size + 1, 4, none⟩) (by simp) (.int .i64 (zagS n4)))
  clear hr4
  go_wp2_with fail
  refine (HN.out _ s5 HE5.out.eye (HE5.out.only.hasB hB HH.out)).mono ?_
  rintro e w6 ⟨n5, s6, rfl, hf, he, ho, hsz, _, _⟩
  have HF5 := Lib.hid hf
  have hc5 := HE5.out.call ho he
  have hr5 := ho.blk HR5.out (by omega)
  have HC5 := Lib.hid hc5
  have ce5_0 : w6.cell? ⟨w.heap.size + 1, 0, none⟩ = some (.int .i64 n0) := by simpa using hc5.cell 0
  have ce5_1 : w6.cell? ⟨w.heap.size + 1, 1, none⟩ = some (.int .i64 n1) := by simpa using hc5.cell 1
  have ce5_2 : w6.cell? ⟨w.heap.size + 1, 2, none⟩ = some (.int .i64 n2) := by simpa using hc5.cell 2
  have ce5_3 : w6.cell? ⟨w.heap.size + 1, 3, none⟩ = some (.int .i64 (zagS n3)) := by simpa using hc5.cell 3
  have ce5_4 : w6.cell? ⟨w.heap.size + 1, 4, none⟩ = some (.int .i64 (zagS n4)) := by simpa using hc5.cell 4
  have ce5_5 : w6.cell? ⟨w.heap.size + 1, 5, none⟩ = some (.int .i64 0) := by simpa using hc5.cell 5
  have fr5 : w6.frozen? ⟨w.heap.size + 1, 5, none⟩ = false := by simpa using hc5.frozen 5
  clear hf ho he hc5
  have HE6 := Lib.hid (HC5.out.set_ 5 (.int .i64 n5))
  have HR6 := Lib.hid (hr5.far (p := ⟨w.heap.size + 1, 5, none⟩) (by simp) (.int .i64 n5))
  clear hr5
  have he6 := HE6.out
  have hr6 := HR6.out
  obtain ⟨w8, hw8⟩ : ∃ w8, (w6.setCell ⟨w.heap.size + 1, 5, none⟩ (.int .i64 n5)).setCells w.heap.size 0 [.int .i64 n0, .int .i64 n1, .int .i64 n2, .int .i64 (zagS n3), .int .i64 (zagS n4), .int .i64 n5] = w8 := ⟨_, rfl⟩
  have hblk8 : Blk w8 w.heap.size 69 #[.int .i64 n0, .int .i64 n1, .int .i64 n2, .int .i64 (zagS n3), .int .i64 (zagS n4), .int .i64 n5] := by rw [← hw8]; exact blk_six hr6 _ _ _ _ _ _
  have HR : Hid (ReqSeen zs g (.slice A zs.length cap) st w (.returned (.agg #[.int .i64 n0, .int .i64 n1, .int .i64 n2, .int .i64 (zagS n3), .int .i64 (zagS n4), .int .i64 n5])) w8) := ⟨⟨n0, n1, n2, zagS n3, zagS n4, n5⟩, s6, rfl, eyed_req HF0.out HF1.out HF2.out (eyed_sgn HF3.out) (eyed_sgn HF4.out) HF5.out, by rw [← hw8]; exact eye_six he6.eye (by omega) _ _ _ _ _ _, by rw [← hw8]; exact only_six he6.only (Nat.le_refl _) _ _ _ _ _ _⟩
  have HTh := Lib.hid (there_six hr6)
  have HW8 := Lib.hid hw8
  have de0 : w8.cell? ⟨w.heap.size, 0, none⟩ = some (.int .i64 n0) := hblk8.cell 0
  have de1 : w8.cell? ⟨w.heap.size, 1, none⟩ = some (.int .i64 n1) := hblk8.cell 1
  have de2 : w8.cell? ⟨w.heap.size, 2, none⟩ = some (.int .i64 n2) := hblk8.cell 2
  have de3 : w8.cell? ⟨w.heap.size, 3, none⟩ = some (.int .i64 (zagS n3)) := hblk8.cell 3
  have de4 : w8.cell? ⟨w.heap.size, 4, none⟩ = some (.int .i64 (zagS n4)) := hblk8.cell 4
  have de5 : w8.cell? ⟨w.heap.size, 5, none⟩ = some (.int .i64 n5) := hblk8.cell 5
  clear hw8 he6 hr6 hblk8
  go_wp2_with (refine wpList_store_mid rfl 69 (.tmp 2) (.tmp 28) rfl w.heap.size 0 #[.int .i64 n0, .int .i64 n1, .int .i64 n2, .int .i64 (zagS n3), .int .i64 (zagS n4), .int .i64 n5] rfl rfl HTh.out req_size (one_six _ _ _ _ _ _) ?_; rw [HW8.out])
  exact bodyPost_ret (v := .agg #[.int .i64 n0, .int .i64 n1, .int .i64 n2, .int .i64 (zagS n3), .int .i64 (zagS n4), .int .i64 n5]) (by simp [results, Tryz.results178, go_sem, de0, de1, de2, de3, de4, de5]) rfl HR.out
end Go.Proofs.YtbegjadohamkkaaGreat
/- The contracts of the document's own Eye for votes and for batches. -/
namespace Go.Proofs.YtbegjadohamkkaaGreat
open Go.RowKit

/-- What holds at the head of a list's loop. -/
def SeenRel {α : Type} (F : Tkr (List α)) (f : Tkr α) (own : World → Nat → Value → List α → Prop) (g : Nat) (X : Value) (st0 : Option Int) (w : World) (v x : Value) (wr : World) : Prop :=
  ∃ (n : Nat) (done : List α) (st : Option Int), x = .int .i64 n ∧ done.length + n ≤ 256 ∧ Only g w wr ∧ EyeHas wr g X st ∧ own wr w.heap.size v done ∧ Rest F f st0 st done n
/-- What a call of the Eye's for a list does. -/
def ListSeen {α : Type} (F : Tkr (List α)) (own : World → Nat → Value → List α → Prop) (g : Nat) (X : Value) (st : Option Int) (w : World) (e : Ending) (w' : World) : Prop :=
  ∃ (l : List α) (v : Value) (st' : Option Int), e = .returned v ∧ l.length ≤ 256 ∧ Eyed F st st' l ∧ own w' w.heap.size v l ∧ EyeHas w' g X st' ∧ Only g w w'
def OwnVotes (w : World) (b : Nat) (v : Value) (l : List Vt) : Prop := w.ownsRow b 65 2 v l.length (voteCells l)
def OwnReqs (w : World) (b : Nat) (v : Value) (l : List Rq) : Prop := w.ownsRow b 69 6 v l.length (reqCells l)
theorem eyed_vote {zs : List Int} {s0 s1 s2 : Option Int} {a0 a1 : Int} (h0 : Eyed (tkNum zs) s0 s1 a0) (h1 : Eyed (tkNum zs) s1 s2 a1) : Eyed (tkVote zs) s0 s2 ⟨a0, a1⟩ :=
  Eyed.bind (g := fun x0 j => (tkNum zs j).bind fun y1 => some ((⟨x0, y1.1⟩ : Vt), y1.2)) h0 (Eyed.bind (g := fun x1 j => some ((⟨a0, x1⟩ : Vt), j)) h1 (Eyed.pure (⟨a0, a1⟩ : Vt) s2))

set_option maxHeartbeats 2000000 in
set_option maxRecDepth 100000 in
theorem eye_votes (A : Option Addr) (cap : Nat) (zs : List Int) (B g : Nat) (st : Option Int) (hl : zs.length ≤ 9223372036854775806) (hz : ∀ z ∈ zs, 0 ≤ z ∧ z ≤ 255) (w : World) (hB : B ≤ g) (he : EyeHas w g (.slice A zs.length cap) st) (hh : Has w B A (u8s zs)) :
    Calls Tryz.prog 153 #[.pointer (some ⟨g, 0, none⟩)] w (ListSeen (tkVotes zs) OwnVotes g (.slice A zs.length cap) st w) := by
  have hg := he.lt
  obtain ⟨i0, hinf, hy0, hy1, hy2⟩ := info_parts Tryz.info65
  have HN := Lib.hid (fun w st he hh => eye_number A cap zs B g st hl hz w he hh)
  have HH := Lib.hid hh
  have HLn := Lib.hid (eye_list A cap zs B g st hl hz w he hh)
  clear he hh hz hl
  go_enter Tryz.func153, Tryz.ntmps153
  go_wp2_with fail
  refine HLn.out.mono ?_
  rintro e w1 ⟨n, st1, rfl, hn, hf, he, ho, hsz⟩
  have HR0 : Hid (SeenRel (tkVotes zs) (tkVote zs) OwnVotes g (.slice A zs.length cap) st w (.slice none 0 0) (.int .i64 n) w1) := ⟨n, [], st1, rfl, by simpa using hn, ho, he, World.ownsRow_nil _ _ _ _, Rest.start hf⟩
  clear hf he ho
  go_wp2_with fail
  go_loopw [3, 4] (fun v x wr => SeenRel (tkVotes zs) (tkVote zs) OwnVotes g (.slice A zs.length cap) st w v x wr) (fun _ x _ => (intOf x).toNat)
  case atStart => exact HR0.out
  case round =>
    obtain ⟨n, done, st1, rfl, hn, ho, he, hown, hrest⟩ := hrel
    have hbs := ho.size
    cases st1 with
    | none =>
      have ce := he.bad
      obtain ⟨A2, c2, rfl, _, _⟩ := own_slice hown
      have HE : Hid (ListSeen (tkVotes zs) OwnVotes g (.slice A zs.length cap) st w (.returned (.slice A2 done.length c2)) wr) := ⟨done, _, none, rfl, by omega, Rest.bad hrest, hown, he, ho⟩
      clear he ho hown hrest
      by_cases hn0 : n = 0
      · subst hn0
        go_wp2_with fail
        go_ret
        exact HE.out
      · have hpos : (0 : Int) < (n : Int) := by omega
        go_wp2_with fail
        go_ret
        exact HE.out
    | some q =>
      have ce := he.good.1
      by_cases hn0 : n = 0
      · subst hn0
        obtain ⟨A2, c2, rfl, _, _⟩ := own_slice hown
        have HE : Hid (ListSeen (tkVotes zs) OwnVotes g (.slice A zs.length cap) st w (.returned (.slice A2 done.length c2)) wr) := ⟨done, _, some q, rfl, by omega, Rest.end_ hrest, hown, he, ho⟩
        clear he ho hown hrest
        go_wp2_with fail
        go_ret
        exact HE.out
      · obtain ⟨m, hm⟩ : ∃ m, n = m + 1 := ⟨n - 1, by omega⟩
        have hpos : (0 : Int) < (n : Int) := by omega
        have hx : (n : Int) - 1 = (m : Int) := by omega
        have hmn : done.length + 1 + m ≤ 256 := by omega
        have hmm : m < n := by omega
        rw [hm] at hrest
        have HRe := Lib.hid hrest
        have HM := Lib.hid hmn
        clear hrest hm
        have hE0 := Eyg.new (T := 65) (s := 2) ho he hown hg #[.int .i64 0, .int .i64 0]
        have HE0 := Lib.hid hE0
        clear ho he hown hE0
        go_wp2_with fail
        refine (HN.out _ _ HE0.out.eye (HE0.out.only.hasB hB HH.out)).mono ?_
        rintro e w2 ⟨n0, s1, rfl, hf, he, ho, -, _, _⟩
        have HF0 := Lib.hid hf
        have hc0 := HE0.out.call ho he
        have fr0 := hc0.frozen 0
        have ce0 : w2.cell? ⟨wr.heap.size, 0, none⟩ = some (.int .i64 0) := hc0.cell 0
        have HE1 := Lib.hid (hc0.set_ 0 (.int .i64 n0))
        clear hf he ho hc0
        go_wp2_with fail
        refine (HN.out _ _ HE1.out.eye (HE1.out.only.hasB hB HH.out)).mono ?_
        rintro e w3 ⟨n1, s2, rfl, hf, he, ho, -, _, _⟩
        have HF1 := Lib.hid hf
        have hc1 := HE1.out.call ho he
        have fr1 := hc1.frozen 1
        have ce10 : w3.cell? ⟨wr.heap.size, 0, none⟩ = some (.int .i64 n0) := hc1.cell 0
        have ce11 : w3.cell? ⟨wr.heap.size, 1, none⟩ = some (.int .i64 0) := hc1.cell 1
        have HE2 := Lib.hid (hc1.set_ 1 (.int .i64 n1))
        have hs3 := hc1.only.size
        clear hf he ho hc1
        go_wp2_with (at_builtin; refine wpList_append_own _ rfl (.tmp 26) (.tmp 28) 23 rfl w.heap.size 65 i0 _ 2 16 Tryz.underlying23 hinf hy0 hy1 hy2 rfl (by decide) _ _ _ rfl (HE2.out.row.alloc _) ⟨w3.heap.size, 0, none⟩ 1 1 [.int .i64 n0, .int .i64 n1] rfl rfl ?c1 ?c2 ?c3 ?c4 ?c5 ?_)
        case c1 => exact World.news_of_block (cs := #[.int .i64 n0, .int .i64 n1]) (by simpa using heap_alloc_new (w3.setCell ⟨wr.heap.size, 1, none⟩ (.int .i64 n1)) (.cells #[.int .i64 n0, .int .i64 n1] 65))
        case c2 => intro u hu; simp at hu; rcases hu with rfl | rfl <;> rfl
        case c3 => unfold maxLen; omega
        case c4 => omega
        case c5 => simp; omega
        intro L2 w4 ho4 hg4 _
        have HNx : Hid (SeenRel (tkVotes zs) (tkVote zs) OwnVotes g (.slice A zs.length cap) st w L2 (.int .i64 m) w4) := ⟨m, done ++ [⟨n0, n1⟩], s2, rfl, by have := HM.out; simp; omega, (HE2.out.app hg4).1, (HE2.out.app hg4).2, show OwnVotes _ _ _ (done ++ [⟨n0, n1⟩]) from votes_more (v := ⟨n0, n1⟩) ho4, Rest.step HRe.out (eyed_vote HF0.out HF1.out)⟩
        clear ce ce0 ce10 ce11 fr0 fr1
        clear ho4 hg4
        go_wp2_with fail
        go_roundw
        case rel => exact HNx.out
        case measure => simp [intOf]; omega

set_option maxHeartbeats 2000000 in
set_option maxRecDepth 100000 in
theorem eye_batch (A : Option Addr) (cap : Nat) (zs : List Int) (B g : Nat) (st : Option Int) (hl : zs.length ≤ 9223372036854775806) (hz : ∀ z ∈ zs, 0 ≤ z ∧ z ≤ 255) (w : World) (hB : B ≤ g) (he : EyeHas w g (.slice A zs.length cap) st) (hh : Has w B A (u8s zs)) :
    Calls Tryz.prog 152 #[.pointer (some ⟨g, 0, none⟩)] w (ListSeen (tkBatch zs) OwnReqs g (.slice A zs.length cap) st w) := by
  have hg := he.lt
  obtain ⟨i0, hinf, hy0, hy1, hy2⟩ := info_parts Tryz.info69
  have HN := Lib.hid (fun w st he hh => eye_req A cap zs B g st hl hz w hB he hh)
  have HH := Lib.hid hh
  have HLn := Lib.hid (eye_list A cap zs B g st hl hz w he hh)
  clear he hh hz hl
  go_enter Tryz.func152, Tryz.ntmps152
  go_wp2_with fail
  refine HLn.out.mono ?_
  rintro e w1 ⟨n, st1, rfl, hn, hf, he, ho, hsz⟩
  have HR0 : Hid (SeenRel (tkBatch zs) (tkReq zs) OwnReqs g (.slice A zs.length cap) st w (.slice none 0 0) (.int .i64 n) w1) := ⟨n, [], st1, rfl, by simpa using hn, ho, he, World.ownsRow_nil _ _ _ _, Rest.start hf⟩
  clear hf he ho
  go_wp2_with fail
  go_loopw [3, 4] (fun v x wr => SeenRel (tkBatch zs) (tkReq zs) OwnReqs g (.slice A zs.length cap) st w v x wr) (fun _ x _ => (intOf x).toNat)
  case atStart => exact HR0.out
  case round =>
    obtain ⟨n, done, st1, rfl, hn, ho, he, hown, hrest⟩ := hrel
    have hbs := ho.size
    cases st1 with
    | none =>
      have ce := he.bad
      obtain ⟨A2, c2, rfl, _, _⟩ := own_slice hown
      have HE : Hid (ListSeen (tkBatch zs) OwnReqs g (.slice A zs.length cap) st w (.returned (.slice A2 done.length c2)) wr) := ⟨done, _, none, rfl, by omega, Rest.bad hrest, hown, he, ho⟩
      clear he ho hown hrest
      by_cases hn0 : n = 0
      · subst hn0
        go_wp2_with fail
        go_ret
        exact HE.out
      · have hpos : (0 : Int) < (n : Int) := by omega
        go_wp2_with fail
        go_ret
        exact HE.out
    | some q =>
      have ce := he.good.1
      by_cases hn0 : n = 0
      · subst hn0
        obtain ⟨A2, c2, rfl, _, _⟩ := own_slice hown
        have HE : Hid (ListSeen (tkBatch zs) OwnReqs g (.slice A zs.length cap) st w (.returned (.slice A2 done.length c2)) wr) := ⟨done, _, some q, rfl, by omega, Rest.end_ hrest, hown, he, ho⟩
        clear he ho hown hrest
        go_wp2_with fail
        go_ret
        exact HE.out
      · obtain ⟨m, hm⟩ : ∃ m, n = m + 1 := ⟨n - 1, by omega⟩
        have hpos : (0 : Int) < (n : Int) := by omega
        have hx : (n : Int) - 1 = (m : Int) := by omega
        have hmn : done.length + 1 + m ≤ 256 := by omega
        have hmm : m < n := by omega
        rw [hm] at hrest
        have HRe := Lib.hid hrest
        have HM := Lib.hid hmn
        clear hrest hm
        have HE := Lib.hid he
        have HO := Lib.hid ho
        have HOw := Lib.hid hown
        clear ho he hown
        go_wp2_with fail
        refine (HN.out _ _ HE.out (HO.out.hasB hB HH.out)).mono ?_
        rintro e w2 ⟨r, s1, rfl, hf, he, ho2⟩
        have HF0 := Lib.hid hf
        have HE2 := Lib.hid he
        have HO2 := Lib.hid (HO.out.trans ho2)
        have HOw2 := Lib.hid (ho2.own HOw.out (own_blk_lt HOw.out hg))
        have hs2 := (HO.out.trans ho2).size
        clear hf he ho2
        go_wp2_with (at_builtin; refine wpList_append_own _ rfl (.tmp 18) (.tmp 21) 22 rfl w.heap.size 69 i0 _ 6 48 Tryz.underlying22 hinf hy0 hy1 hy2 rfl (by decide) _ _ _ rfl (HOw2.out.alloc _) ⟨w2.heap.size, 0, none⟩ 1 1 [.int .i64 r.cl, .int .i64 r.tm, .int .i64 r.kd, .int .i64 r.ky, .int .i64 r.vl, .int .i64 r.sg] rfl rfl ?c1 ?c2 ?c3 ?c4 ?c5 ?_)
        case c1 => exact World.news_of_block (cs := #[.int .i64 r.cl, .int .i64 r.tm, .int .i64 r.kd, .int .i64 r.ky, .int .i64 r.vl, .int .i64 r.sg]) (heap_alloc_new w2 (.cells #[.int .i64 r.cl, .int .i64 r.tm, .int .i64 r.kd, .int .i64 r.ky, .int .i64 r.vl, .int .i64 r.sg] 69))
        case c2 => intro u hu; simp at hu; rcases hu with rfl | rfl | rfl | rfl | rfl | rfl <;> rfl
        case c3 => unfold maxLen; omega
        case c4 => omega
        case c5 => simp; omega
        intro L2 w4 ho4 hg4 _
        have HNx : Hid (SeenRel (tkBatch zs) (tkReq zs) OwnReqs g (.slice A zs.length cap) st w L2 (.int .i64 m) w4) := ⟨m, done ++ [r], s1, rfl, by have := HM.out; simp; omega, (HO2.out.alloc _).grown hg4 (fun k hk => Or.inl (HOw2.out.lt k hk).1), (HE2.out.alloc _).grown hg4 (fun he => own_blk_lt HOw2.out hg he.symm), show OwnReqs _ _ _ (done ++ [r]) from batch_more (v := r) ho4, Rest.step HRe.out HF0.out⟩
        clear ce
        clear ho4 hg4
        go_wp2_with fail
        go_roundw
        case rel => exact HNx.out
        case measure => simp [intOf]; omega

end Go.Proofs.YtbegjadohamkkaaGreat
