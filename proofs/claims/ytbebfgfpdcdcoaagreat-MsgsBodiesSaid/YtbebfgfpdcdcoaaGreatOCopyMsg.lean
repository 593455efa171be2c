/- The contract of keep.CopyMsg: a message of the call's own, the same one. -/
import Derived.Test.YtbebfgfpdcdcoaaGreatOCopyCerts
import Derived.Test.YtbebfgfpdcdcoaaGreatOMsgParse
import Derived.Test.YtbebfgfpdcdcoaaGreatOS5
import Derived.Test.YtbebfgfpdcdcoaaGreatOMsgHeavy
namespace Go.Proofs.YtbebfgfpdcdcoaaGreat
open Go.RowKit

structure Ps.Full (w : World) (B : Nat) (x : Ps) : Prop where
  vs : Has w B x.A1 (voteCells x.p.vs)
  cs : FullCerts w B x.A2 x.p.cs
  n1 : x.A1 = none → x.c1 = 0
  s1 : x.p.vs.length ≤ 1048576
  s2 : x.p.cs.length ≤ 1000000
def FullParts (w : World) (B : Nat) (A : Option Addr) (l : List Pt) : Prop := ∃ L : List Ps, L.map Ps.p = l ∧ Has w B A (L.flatMap Ps.cells) ∧ ∀ x ∈ L, x.Full w B
theorem Ps.Full.reads {w w' : World} {B B' : Nat} {x : Ps} (h : x.Full w B) (hr : Reads B B' w w') : x.Full w' B' := ⟨hr _ _ h.vs, h.cs.reads hr, h.n1, h.s1, h.s2⟩
theorem FullParts.reads {w w' : World} {B B' : Nat} {A : Option Addr} {l : List Pt} (h : FullParts w B A l) (hr : Reads B B' w w') : FullParts w' B' A l := by
  obtain ⟨L, h1, h2, h3⟩ := h
  exact ⟨L, h1, hr _ _ h2, fun x hx => (h3 x hx).reads hr⟩
theorem FullParts.at {w : World} {B : Nat} {A : Option Addr} {l : List Pt} (h : FullParts w B A l) {k : Nat} (hk : k < l.length) :
    ∃ (ad : Addr) (x : Ps), A = some ad ∧ ad.block < B ∧ x.p = l[k] ∧ x.Full w B ∧ w.cell? (ad.add (k * 4)) = some (.int .i64 x.p.fr) ∧ w.cell? ⟨(ad.add (k * 4)).block, (ad.add (k * 4)).off + 1, none⟩ = some (.slice x.A1 x.p.vs.length x.c1) ∧
      w.cell? ⟨(ad.add (k * 4)).block, (ad.add (k * 4)).off + 2, none⟩ = some (.slice x.A2 x.p.cs.length x.c2) ∧ w.cell? ⟨(ad.add (k * 4)).block, (ad.add (k * 4)).off + 3, none⟩ = some (.int .i64 x.p.sg) := by
  obtain ⟨L, rfl, h2, h3⟩ := h
  have hk' : k < L.length := by simpa using hk
  obtain ⟨ad, e, hb, hc⟩ := h2.thing (f := Ps.cells) (s := 4) (fun _ => rfl) (by omega) hk'
  refine ⟨ad, L[k], e, hb, by simp, h3 _ (List.getElem_mem hk'), hc 0 _ rfl, ?_, ?_, ?_⟩
  · rw [← add_pos _ _ _ (by omega)]; exact hc 1 _ rfl
  · rw [← add_pos _ _ _ (by omega)]; exact hc 2 _ rfl
  · rw [← add_pos _ _ _ (by omega)]; exact hc 3 _ rfl
/-- A message whose lists are there whole. -/
structure Ms.Full (w : World) (B : Nat) (x : Ms) : Prop where
  bt : Has w B x.A1 (reqCells x.m.bt)
  vs : Has w B x.A2 (voteCells x.m.vs)
  cs : FullCerts w B x.A3 x.m.cs
  ps : FullParts w B x.A4 x.m.ps
  n1 : x.A1 = none → x.c1 = 0
  n2 : x.A2 = none → x.c2 = 0
  s1 : x.m.bt.length ≤ 1048576
  s2 : x.m.vs.length ≤ 1048576
  s3 : x.m.cs.length ≤ 1000000
  s4 : x.m.ps.length ≤ 1000000
theorem low_ten {B g : Nat} {a w : World} (h : Below B a w) (hg : B ≤ g) (b0 b1 b2 b3 b4 b5 b6 b7 b8 b9 : Value) : Below B a (w.setCells g 0 [b0, b1, b2, b3, b4, b5, b6, b7, b8, b9]) :=
  ((((((((((h.setCell (p := ⟨g, 0, none⟩) hg b0).setCell (p := ⟨g, 1, none⟩) hg b1).setCell (p := ⟨g, 2, none⟩) hg b2).setCell (p := ⟨g, 3, none⟩) hg b3).setCell (p := ⟨g, 4, none⟩) hg b4).setCell (p := ⟨g, 5, none⟩) hg b5).setCell (p := ⟨g, 6, none⟩) hg b6).setCell (p := ⟨g, 7, none⟩) hg b7).setCell (p := ⟨g, 8, none⟩) hg b8).setCell (p := ⟨g, 9, none⟩) hg b9)
theorem full_certs {w : World} {A : Option Addr} {l : List Ct} {c : Nat} (h : IsCerts w A l c) (hv : heavyC l = false) : FullCerts w w.heap.size A l := by
  obtain ⟨L, h1, h2, h3⟩ := h.lies
  refine ⟨L, h1, h2, fun x hx => ?_⟩
  have hl := (light_of hv).2 x.c (by rw [← h1]; exact List.mem_map_of_mem hx)
  exact ⟨(h3 x hx).in_, (h3 x hx).bt.nil, (h3 x hx).vs.nil, by omega, by omega⟩
theorem full_msg {w : World} {x : Ms} (h : x.Came w) (hv : heavyM x.m = false) : x.Full w w.heap.size := by
  obtain ⟨h1, h2, h3, h4, h5⟩ := light_msg hv
  obtain ⟨L, e1, e2, e3⟩ := h.ps.lies
  refine ⟨h.bt.has, h.vs.has, full_certs h.cs h4, ⟨L, e1, e2, fun q hq => ?_⟩, h.bt.nil, h.vs.nil, by omega, by omega, by have := (light_of h4).1; omega, by omega⟩
  have hl := h5 q.p (by rw [← e1]; exact List.mem_map_of_mem hq)
  exact ⟨(e3 q hq).vs.has, full_certs (e3 q hq).cs hl.2, (e3 q hq).vs.nil, by omega, by have := (light_of hl.2).1; omega⟩
/-- The message's own lists are copied, and k of its parts. -/
structure CmSt (w : World) (x : Ms) (B1 B2 B3 : Option Addr) (e1 e2 e3 : Nat) (k : Nat) (v : Value) (wr : World) : Prop where
  low : Below w.heap.size w wr
  box : Blk wr w.heap.size 38 #[.int .i64 x.m.kd, .int .i64 x.m.fr, .int .i64 x.m.vw, .int .i64 x.m.ins, .int .i64 x.m.sq, .int .i64 x.m.rs, .slice B1 x.m.bt.length e1, .slice B2 x.m.vs.length e2, .slice B3 x.m.cs.length e3, .slice x.A4 x.m.ps.length x.c4]
  res : Blk wr (w.heap.size + 1) 38 #[.int .i64 0, .int .i64 0, .int .i64 0, .int .i64 0, .int .i64 0, .int .i64 0, .slice none 0 0, .slice none 0 0, .slice none 0 0, .slice none 0 0]
  bt : wr.ownsRow (w.heap.size + 2) 69 6 (.slice B1 x.m.bt.length e1) x.m.bt.length (reqCells x.m.bt)
  vs : wr.ownsRow (w.heap.size + 2) 65 2 (.slice B2 x.m.vs.length e2) x.m.vs.length (voteCells x.m.vs)
  cs : OwnCerts wr (w.heap.size + 2) (.slice B3 x.m.cs.length e3) x.m.cs
  out : ∃ L : List Ps, L.length = k ∧ L.map Ps.p = x.m.ps.take k ∧ wr.ownsRow (w.heap.size + 2) 73 4 v k (L.flatMap Ps.cells) ∧ ∀ q ∈ L, q.Own wr (w.heap.size + 2)
theorem CmSt.below {w wr w2 : World} {x : Ms} {B1 B2 B3 : Option Addr} {e1 e2 e3 k : Nat} {v : Value} (h : CmSt w x B1 B2 B3 e1 e2 e3 k v wr) (hb : Below wr.heap.size wr w2) : CmSt w x B1 B2 B3 e1 e2 e3 k v w2 := by
  obtain ⟨L, h1, h2, h3, h4⟩ := h.out
  refine ⟨h.low.trans (hb.mono h.low.size), h.box.below hb h.box.lt, h.res.below hb h.res.lt, below_own h.bt hb (Nat.le_refl _), below_own h.vs hb (Nat.le_refl _), h.cs.below hb, L, h1, h2, below_own h3 hb (Nat.le_refl _), fun q hq => ?_⟩
  exact ⟨below_own (h4 q hq).vs hb (Nat.le_refl _), (h4 q hq).cs.below hb⟩
theorem CmSt.more {w wr w2 : World} {x : Ms} {B1 B2 B3 : Option Addr} {e1 e2 e3 k : Nat} {v v2 : Value} {ob : Obj} {q : Ps} (h : CmSt w x B1 B2 B3 e1 e2 e3 k v wr) (hk : k < x.m.ps.length) (hq : q.p = x.m.ps[k]) (hown : q.Own wr (w.heap.size + 2))
    {L : List Ps} (h1 : L.length = k) (h2 : L.map Ps.p = x.m.ps.take k) (h3 : wr.ownsRow (w.heap.size + 2) 73 4 v k (L.flatMap Ps.cells)) (h4 : ∀ q ∈ L, q.Own wr (w.heap.size + 2))
    (ho : w2.ownsRow (w.heap.size + 2) 73 4 v2 (k + 1) (L.flatMap Ps.cells ++ q.cells)) (hg : (wr.alloc ob).grownBy w2 v.ownBlock) : CmSt w x B1 B2 B3 e1 e2 e3 (k + 1) v2 w2 := by
  have hlt := fun j hj => (h3.lt j hj).1
  have hs := h.low.size
  have hr := h.res.lt
  have hka : ∀ {b n s : Nat} {e : TypeId} {u : Value} {xs : List Value}, e ≠ 73 → wr.ownsRow b e s u n xs → w2.ownsRow b e s u n xs := fun hne hr => (hr.alloc ob).kept hg (own_apart (hr.alloc ob) (h3.alloc ob) hne)
  have hkc : ∀ {b : Nat} {u : Value} {l : List Ct}, OwnCerts wr b u l → OwnCerts w2 b u l := fun hc => by
    obtain ⟨M, m1, m2, m3⟩ := hc
    exact ⟨M, m1, hka (by decide) m2, fun y hy => ⟨hka (by decide) (m3 y hy).bt, hka (by decide) (m3 y hy).vs⟩⟩
  refine ⟨(h.low.alloc h.low.size ob).grown hg (by simp; omega) (fun j hj => by have := hlt j hj; omega), (h.box.alloc ob).grown hg (fun he => by have := hlt _ he.symm; omega), (h.res.alloc ob).grown hg (fun he => by have := hlt _ he.symm; omega), hka (by decide) h.bt, hka (by decide) h.vs, hkc h.cs, L ++ [q], by rw [List.length_append, h1]; rfl, ?_, ?_, ?_⟩
  · rw [List.map_append, h2, List.take_succ_eq_append_getElem hk, ← hq]; rfl
  · rw [List.flatMap_append]
    simpa using ho
  · intro y hy
    rcases List.mem_append.1 hy with hy | hy
    · exact ⟨hka (by decide) (h4 y hy).vs, hkc (h4 y hy).cs⟩
    · simp at hy; subst hy; exact ⟨hka (by decide) hown.vs, hkc hown.cs⟩
theorem info_part6 : (Tryz.prog.info? 73).map (fun i => (i.zero, i.size, i.bytes)) = some (some (.agg #[.int .i64 0, .slice none 0 0, .slice none 0 0, .int .i64 0]), 4, 64) := by kernel_rfl
set_option maxHeartbeats 8000000 in
set_option maxRecDepth 100000 in
theorem copy_msg (x : Ms) (w : World) (hf : x.Full w w.heap.size) :
    Calls Tryz.prog 31 #[.agg #[.int .i64 x.m.kd, .int .i64 x.m.fr, .int .i64 x.m.vw, .int .i64 x.m.ins, .int .i64 x.m.sq, .int .i64 x.m.rs, .slice x.A1 x.m.bt.length x.c1, .slice x.A2 x.m.vs.length x.c2, .slice x.A3 x.m.cs.length x.c3, .slice x.A4 x.m.ps.length x.c4]] w fun e w' => ∃ y : Ms, e = .returned (.agg #[.int .i64 y.m.kd, .int .i64 y.m.fr, .int .i64 y.m.vw, .int .i64 y.m.ins, .int .i64 y.m.sq, .int .i64 y.m.rs, .slice y.A1 y.m.bt.length y.c1, .slice y.A2 y.m.vs.length y.c2, .slice y.A3 y.m.cs.length y.c3, .slice y.A4 y.m.ps.length y.c4]) ∧ y.m = x.m ∧ y.Own w' w.heap.size ∧ Below w.heap.size w w' := by
  obtain ⟨i0, hi0, hx0, hx1, hx2⟩ := info_parts info_part6
  have hb0 : Below w.heap.size w ((w.alloc (.cells #[.int .i64 x.m.kd, .int .i64 x.m.fr, .int .i64 x.m.vw, .int .i64 x.m.ins, .int .i64 x.m.sq, .int .i64 x.m.rs, .slice x.A1 x.m.bt.length x.c1, .slice x.A2 x.m.vs.length x.c2, .slice x.A3 x.m.cs.length x.c3, .slice x.A4 x.m.ps.length x.c4] 38)).alloc (.cells #[.int .i64 0, .int .i64 0, .int .i64 0, .int .i64 0, .int .i64 0, .int .i64 0, .slice none 0 0, .slice none 0 0, .slice none 0 0, .slice none 0 0] 38)) := ((Below.refl _ w).alloc (Nat.le_refl _) _).alloc (by simp) _
  have HB0 := Lib.hid hb0
  have HX := Lib.hid (show Blk ((w.alloc (.cells #[.int .i64 x.m.kd, .int .i64 x.m.fr, .int .i64 x.m.vw, .int .i64 x.m.ins, .int .i64 x.m.sq, .int .i64 x.m.rs, .slice x.A1 x.m.bt.length x.c1, .slice x.A2 x.m.vs.length x.c2, .slice x.A3 x.m.cs.length x.c3, .slice x.A4 x.m.ps.length x.c4] 38)).alloc (.cells #[.int .i64 0, .int .i64 0, .int .i64 0, .int .i64 0, .int .i64 0, .int .i64 0, .slice none 0 0, .slice none 0 0, .slice none 0 0, .slice none 0 0] 38)) w.heap.size 38 #[.int .i64 x.m.kd, .int .i64 x.m.fr, .int .i64 x.m.vw, .int .i64 x.m.ins, .int .i64 x.m.sq, .int .i64 x.m.rs, .slice x.A1 x.m.bt.length x.c1, .slice x.A2 x.m.vs.length x.c2, .slice x.A3 x.m.cs.length x.c3, .slice x.A4 x.m.ps.length x.c4] from (Blk.new _ _ _).alloc _)
  have HZ := Lib.hid (show Blk ((w.alloc (.cells #[.int .i64 x.m.kd, .int .i64 x.m.fr, .int .i64 x.m.vw, .int .i64 x.m.ins, .int .i64 x.m.sq, .int .i64 x.m.rs, .slice x.A1 x.m.bt.length x.c1, .slice x.A2 x.m.vs.length x.c2, .slice x.A3 x.m.cs.length x.c3, .slice x.A4 x.m.ps.length x.c4] 38)).alloc (.cells #[.int .i64 0, .int .i64 0, .int .i64 0, .int .i64 0, .int .i64 0, .int .i64 0, .slice none 0 0, .slice none 0 0, .slice none 0 0, .slice none 0 0] 38)) (w.heap.size + 1) 38 #[.int .i64 0, .int .i64 0, .int .i64 0, .int .i64 0, .int .i64 0, .int .i64 0, .slice none 0 0, .slice none 0 0, .slice none 0 0, .slice none 0 0] from Blk.new1 _ _ _ _)
  have HF := Lib.hid hf
  have n1 := hf.n1
  have n2 := hf.n2
  have s1 := hf.s1
  have s2 := hf.s2
  have s3 := hf.s3
  have s4 := hf.s4
  clear hf hb0
  go_enter Tryz.func31, Tryz.ntmps31
  go_upto_region 1 with fail
  obtain ⟨w0, hw0⟩ : ∃ w0, ((w.alloc (.cells #[.int .i64 x.m.kd, .int .i64 x.m.fr, .int .i64 x.m.vw, .int .i64 x.m.ins, .int .i64 x.m.sq, .int .i64 x.m.rs, .slice x.A1 x.m.bt.length x.c1, .slice x.A2 x.m.vs.length x.c2, .slice x.A3 x.m.cs.length x.c3, .slice x.A4 x.m.ps.length x.c4] 38)).alloc (.cells #[.int .i64 0, .int .i64 0, .int .i64 0, .int .i64 0, .int .i64 0, .int .i64 0, .slice none 0 0, .slice none 0 0, .slice none 0 0, .slice none 0 0] 38)) = w0 := ⟨_, rfl⟩
  have hs0 : w.heap.size + 2 ≤ w0.drew.heap.size := by rw [← hw0]; simp
  rw [hw0] at HB0 HX HZ ⊢
  clear hw0
  have hw00 : w.heap.size ≤ w0.heap.size := HB0.out.size
  have HB := Lib.hid (HF.out.bt.below HB0.out (Nat.le_refl _))
  have HV := Lib.hid (HF.out.vs.below HB0.out (Nat.le_refl _))
  have HC := Lib.hid (HF.out.cs.reads (Reads.below HB0.out (Nat.le_refl _)))
  have d6 : w0.cell? ⟨w.heap.size, 6, none⟩ = some (.slice x.A1 x.m.bt.length x.c1) := HX.out.cell 6
  have d7 : w0.cell? ⟨w.heap.size, 7, none⟩ = some (.slice x.A2 x.m.vs.length x.c2) := HX.out.cell 7
  have d8 : w0.cell? ⟨w.heap.size, 8, none⟩ = some (.slice x.A3 x.m.cs.length x.c3) := HX.out.cell 8
  have hgl := HX.out.lt
  have hgz := HZ.out.lt
  go_region_law (first
    | (go_simp
       go_at_call 92
       refine (mcopy_reqs x.A1 x.c1 x.m.bt.length w.heap.size x.m.bt w0.drew rfl s1 HB.out.drew n1).mono ?_
       rintro e w2 ⟨v1, rfl, ho1, hb2⟩
       obtain ⟨B1, e1, rfl, _, _⟩ := own_slice ho1
       have q6 := (Below.cell hb2 (p := ⟨w.heap.size, 6, none⟩) hgl).trans d6
       have q7 := (Below.cell hb2 (p := ⟨w.heap.size, 7, none⟩) hgl).trans d7
       have q8 := (Below.cell hb2 (p := ⟨w.heap.size, 8, none⟩) hgl).trans d8)
    | (go_simp
       go_at_call 93
       refine (mcopy_votes x.A2 x.c2 x.m.vs.length w.heap.size x.m.vs w2 rfl s2 (HV.out.drew.below (Below.mono hb2 hw00) (Nat.le_refl _)) n2).mono ?_
       rintro e w3 ⟨v2, rfl, ho2, hb3⟩
       obtain ⟨B2, e2, rfl, _, _⟩ := own_slice ho2
       have r6 := (Below.cell hb3 (p := ⟨w.heap.size, 6, none⟩) (Nat.lt_of_lt_of_le hgl hb2.size)).trans q6
       have r7 := (Below.cell hb3 (p := ⟨w.heap.size, 7, none⟩) (Nat.lt_of_lt_of_le hgl hb2.size)).trans q7
       have r8 := (Below.cell hb3 (p := ⟨w.heap.size, 8, none⟩) (Nat.lt_of_lt_of_le hgl hb2.size)).trans q8)
    | (go_simp
       go_at_call 35
       refine (copy_certs_full x.A3 x.c3 x.m.cs.length x.m.cs w3 rfl s3 ((((HC.out.reads (fun _ _ h => h.drew)).reads (Reads.below (Below.mono hb2 hw00) (Nat.le_refl _))).reads (Reads.below (Below.mono hb3 (Nat.le_trans hw00 hb2.size)) (Nat.le_refl _))).reads (Reads.more (Nat.le_trans (Nat.le_trans hw00 hb2.size) hb3.size)))).mono ?_
       rintro e w4 ⟨v3, rfl, ho3, hb4⟩
       obtain ⟨B3, e3, rfl, _, _⟩ := ho3.slice
       have hk4 := Blk.below (Blk.below (Blk.below (Blk.drew HX.out) hb2 hgl) hb3 (Nat.lt_of_lt_of_le hgl hb2.size)) hb4 (Nat.lt_of_lt_of_le (Nat.lt_of_lt_of_le hgl hb2.size) hb3.size)
       have hz4 := Blk.below (Blk.below (Blk.below (Blk.drew HZ.out) hb2 hgz) hb3 (Nat.lt_of_lt_of_le hgz hb2.size)) hb4 (Nat.lt_of_lt_of_le (Nat.lt_of_lt_of_le hgz hb2.size) hb3.size)
       have t6 := Blk.cell hk4 6
       have t7 := Blk.cell hk4 7
       have t8 := Blk.cell hk4 8
       have u6 := Blk.frozen hk4 6
       have u7 := Blk.frozen hk4 7
       have u8 := Blk.frozen hk4 8))
  all_goals
    have hst : CmSt w x B1 B2 B3 e1 e2 e3 0 (.slice none 0 0) (((w4.setCell ⟨w.heap.size, 6, none⟩ (.slice B1 x.m.bt.length e1)).setCell ⟨w.heap.size, 7, none⟩ (.slice B2 x.m.vs.length e2)).setCell ⟨w.heap.size, 8, none⟩ (.slice B3 x.m.cs.length e3)) := by
      have k6 := keeps_blk hk4 6 (.slice B1 x.m.bt.length e1)
      have b6 := hk4.set_ 6 (.slice B1 x.m.bt.length e1)
      have k7 := keeps_blk b6 7 (.slice B2 x.m.vs.length e2)
      have b7 := b6.set_ 7 (.slice B2 x.m.vs.length e2)
      have k8 := keeps_blk b7 8 (.slice B3 x.m.cs.length e3)
      have kk := (k6.trans k7).trans k8
      have hne : w.heap.size + 1 ≠ w.heap.size := by omega
      refine ⟨?_, b7.set_ 8 _, ((hz4.far hne _).far hne _).far hne _, own_base (kk _ _ _ _ _ _ (by decide) (below_own (below_own ho1 hb3 (Nat.le_refl _)) hb4 (Nat.le_refl _))) hs0, own_base (kk _ _ _ _ _ _ (by decide) (below_own ho2 hb4 (Nat.le_refl _))) (Nat.le_trans hs0 hb2.size), (ho3.keeps kk (by decide) (by decide) (by decide)).base (Nat.le_trans (Nat.le_trans hs0 hb2.size) hb3.size), [], rfl, rfl, World.ownsRow_nil _ _ _ _, by simp⟩
      have hl : Below w.heap.size w w4 := ((HB0.out.trans (RowKit.Below.mono (show Below w0.heap.size w0 w2 from ⟨hb2.os, hb2.tape, hb2.output, hb2.size, hb2.block⟩) hw00)).trans (hb3.mono (Nat.le_trans hw00 hb2.size))).trans (hb4.mono (Nat.le_trans (Nat.le_trans hw00 hb2.size) hb3.size))
      exact ((hl.setCell (p := ⟨w.heap.size, 6, none⟩) (Nat.le_refl _) _).setCell (p := ⟨w.heap.size, 7, none⟩) (Nat.le_refl _) _).setCell (p := ⟨w.heap.size, 8, none⟩) (Nat.le_refl _) _
    obtain ⟨w5, hw5⟩ : ∃ w5, (((w4.setCell ⟨w.heap.size, 6, none⟩ (.slice B1 x.m.bt.length e1)).setCell ⟨w.heap.size, 7, none⟩ (.slice B2 x.m.vs.length e2)).setCell ⟨w.heap.size, 8, none⟩ (.slice B3 x.m.cs.length e3)) = w5 := ⟨_, rfl⟩
    rw [hw5] at hst ⊢
    have HSt := Lib.hid hst
    clear hst hw5 hk4 hz4 ho1 ho2 ho3 hb2 hb3 hb4 q6 q7 q8 r6 r7 r8 t6 t7 t8 u6 u7 u8 d6 d7 d8 hgl hgz hs0 HB0 HX HZ HB HV HC
    go_wp2_with fail
    go_loopw [3, 4] (fun v i wr => ∃ k : Nat, i = .int .i64 k ∧ k ≤ x.m.ps.length ∧ Hid (CmSt w x B1 B2 B3 e1 e2 e3 k v wr)) (fun _ i _ => x.m.ps.length - (intOf i).toNat)
    case atStart => exact ⟨0, rfl, Nat.zero_le _, HSt.out⟩
    case round =>
      obtain ⟨k, rfl, hk, HT⟩ := hrel
      have c9 : World.cell? wr ⟨w.heap.size, 9, none⟩ = some (.slice x.A4 x.m.ps.length x.c4) := HT.out.box.cell 9
      by_cases hlt : k < x.m.ps.length
      · obtain ⟨ad, q, hA, hadb, hqk, hfull, a0, a1, a2, a3⟩ := (HF.out.ps.reads (Reads.below HT.out.low (Nat.le_refl _))).at hlt
        have HQ := Lib.hid hqk
        have HFu := Lib.hid hfull
        have hs := HT.out.low.size
        have m1 := hfull.n1
        have t1 := hfull.s1
        have t2 := hfull.s2
        rw [hA] at c9
        clear hqk hfull hA
        go_upto_region 7 with fail
        have hb1 : Below wr.heap.size wr (wr.alloc (.cells #[.int .i64 q.p.fr, .slice q.A1 q.p.vs.length q.c1, .slice q.A2 q.p.cs.length q.c2, .int .i64 q.p.sg] 73)) := (Below.refl _ _).alloc (Nat.le_refl _) _
        have HB1 := Lib.hid hb1
        have HK1 := Lib.hid (Blk.new wr 73 #[.int .i64 q.p.fr, .slice q.A1 q.p.vs.length q.c1, .slice q.A2 q.p.cs.length q.c2, .int .i64 q.p.sg])
        obtain ⟨w1, hw1⟩ : ∃ w1, wr.alloc (.cells #[.int .i64 q.p.fr, .slice q.A1 q.p.vs.length q.c1, .slice q.A2 q.p.cs.length q.c2, .int .i64 q.p.sg] 73) = w1 := ⟨_, rfl⟩
        obtain ⟨g, hg⟩ : ∃ g, wr.heap.size = g := ⟨_, rfl⟩
        rw [hw1] at HB1 HK1 ⊢
        have HG := Lib.hid hg
        rw [hg] at HK1 ⊢
        have hI1 := HFu.out.reads (Reads.below (hb1.mono hs) (Nat.le_refl _))
        rw [hw1] at hI1
        have HI1 := Lib.hid hI1
        have d1 : w1.cell? ⟨g, 1, none⟩ = some (.slice q.A1 q.p.vs.length q.c1) := HK1.out.cell 1
        have d2 : w1.cell? ⟨g, 2, none⟩ = some (.slice q.A2 q.p.cs.length q.c2) := HK1.out.cell 2
        have hgl := HK1.out.lt
        have hs1 : w.heap.size ≤ w1.drew.heap.size := Nat.le_trans hs HB1.out.size
        clear hw1 hg hb1 hI1 a0 a1 a2 a3 c9
        go_region_law (first
          | (go_simp
             go_at_call 93
             refine (mcopy_votes q.A1 q.c1 q.p.vs.length w.heap.size q.p.vs w1.drew rfl t1 HI1.out.vs.drew m1).mono ?_
             rintro e w2 ⟨v1, rfl, ho1, hb2⟩
             obtain ⟨D1, f1, rfl, _, _⟩ := own_slice ho1
             have q1 := (Below.cell hb2 (p := ⟨g, 1, none⟩) hgl).trans d1
             have q2 := (Below.cell hb2 (p := ⟨g, 2, none⟩) hgl).trans d2)
          | (go_simp
             go_at_call 35
             refine (copy_certs_full q.A2 q.c2 q.p.cs.length q.p.cs w2 rfl t2 (((HI1.out.cs.reads (fun _ _ h => h.drew)).reads (Reads.below (Below.mono hb2 hs1) (Nat.le_refl _))).reads (Reads.more (Nat.le_trans hs1 hb2.size)))).mono ?_
             rintro e w3 ⟨v2, rfl, ho2, hb3⟩
             obtain ⟨D2, f2, rfl, _, _⟩ := ho2.slice
             have hk2 := Blk.below (Blk.drew HK1.out) hb2 hgl
             have hk3 := Blk.below hk2 hb3 hk2.lt
             have p1 := Blk.cell hk3 1
             have p2 := Blk.cell hk3 2
             have r1 := Blk.frozen hk3 1
             have r2 := Blk.frozen hk3 2))
        all_goals
          have hk4 : Blk ((w3.setCell ⟨g, 1, none⟩ (.slice D1 q.p.vs.length f1)).setCell ⟨g, 2, none⟩ (.slice D2 q.p.cs.length f2)) g 73 #[.int .i64 q.p.fr, .slice D1 q.p.vs.length f1, .slice D2 q.p.cs.length f2, .int .i64 q.p.sg] := (hk3.set_ 1 (.slice D1 q.p.vs.length f1)).set_ 2 (.slice D2 q.p.cs.length f2)
          have hkp := (keeps_blk hk3 1 (.slice D1 q.p.vs.length f1)).trans (keeps_blk (hk3.set_ 1 (.slice D1 q.p.vs.length f1)) 2 (.slice D2 q.p.cs.length f2))
          have hb12 : Below wr.heap.size wr w3 := (HB1.out.trans (RowKit.Below.mono (show Below w1.heap.size w1 w2 from ⟨hb2.os, hb2.tape, hb2.output, hb2.size, hb2.block⟩) HB1.out.size)).trans (hb3.mono (Nat.le_trans HB1.out.size hb2.size))
          have hb14 : Below wr.heap.size wr ((w3.setCell ⟨g, 1, none⟩ (.slice D1 q.p.vs.length f1)).setCell ⟨g, 2, none⟩ (.slice D2 q.p.cs.length f2)) := (hb12.setCell (p := ⟨g, 1, none⟩) (by show wr.heap.size ≤ g; have := HG.out; omega) _).setCell (p := ⟨g, 2, none⟩) (by show wr.heap.size ≤ g; have := HG.out; omega) _
          have hst4 := HT.out.below hb14
          have hres := HT.out.res.lt
          have hbase : w.heap.size + 2 ≤ w1.drew.heap.size := by have := HB1.out.size; have h9 : w1.drew.heap.size = w1.heap.size := rfl; omega
          have hx1 := own_base (hkp _ _ _ _ _ _ (by decide) (below_own ho1 hb3 (Nat.le_refl _))) hbase
          have hx2 := (ho2.keeps hkp (by decide) (by decide) (by decide)).base (Nat.le_trans hbase hb2.size)
          obtain ⟨w4, hw4⟩ : ∃ w4, ((w3.setCell ⟨g, 1, none⟩ (.slice D1 q.p.vs.length f1)).setCell ⟨g, 2, none⟩ (.slice D2 q.p.cs.length f2)) = w4 := ⟨_, rfl⟩
          rw [hw4] at hk4 hst4 hx1 hx2 ⊢
          have HS4 := Lib.hid hst4
          have HX1 := Lib.hid hx1
          have HX2 := Lib.hid hx2
          obtain ⟨L, hL1, hL2, hL3, hL4⟩ := hst4.out
          have HL3 := Lib.hid hL3
          have HL1 := Lib.hid hL1
          have HL2 := Lib.hid hL2
          have HL4 := Lib.hid hL4
          have y0 := Blk.cell hk4 0
          have y1 := Blk.cell hk4 1
          have y2 := Blk.cell hk4 2
          have y3 := Blk.cell hk4 3
          simp only [List.getElem?_toArray, List.getElem?_cons_zero, List.getElem?_cons_succ] at y0 y1 y2 y3
          clear hk2 hk3 hk4 hkp hb12 hb14 hst4 hres hbase hx1 hx2 hw4 p1 p2 r1 r2 q1 q2 ho1 ho2 hb2 hb3 d1 d2 HB1 HI1 HK1 hs1 hL1 hL2 hL3 hL4
          go_wp2_with (at_builtin; refine wpList_append_own _ rfl (.tmp 38) (.tmp 40) 36 rfl (w.heap.size + 2) 73 i0 _ 4 64 Tryz.underlying36 hi0 hx0 hx1 hx2 rfl (by decide) _ _ _ rfl (HL3.out.alloc _) ⟨w4.heap.size, 0, none⟩ 1 1 [.int .i64 q.p.fr, .slice D1 q.p.vs.length f1, .slice D2 q.p.cs.length f2, .int .i64 q.p.sg] rfl rfl ?c1 ?c2 ?c3 ?c4 ?c5 ?_)
          case c1 => exact World.news_of_block (cs := #[.int .i64 q.p.fr, .slice D1 q.p.vs.length f1, .slice D2 q.p.cs.length f2, .int .i64 q.p.sg]) (heap_alloc_new w4 (.cells #[.int .i64 q.p.fr, .slice D1 q.p.vs.length f1, .slice D2 q.p.cs.length f2, .int .i64 q.p.sg] 73))
          case c2 => intro u hu; simp at hu; rcases hu with rfl | rfl | rfl | rfl <;> rfl
          case c3 => unfold maxLen; omega
          case c4 => omega
          case c5 => have := HS4.out.res.lt; simp; omega
          intro v5 w5 ho5 hg5 _
          have hnew := HS4.out.more (q := ⟨q.p, D1, f1, D2, f2⟩) (ob := .cells #[.int .i64 q.p.fr, .slice D1 q.p.vs.length f1, .slice D2 q.p.cs.length f2, .int .i64 q.p.sg] 73) hlt HQ.out ⟨HX1.out, HX2.out⟩ (v2 := v5) (w2 := w5) HL1.out HL2.out HL3.out HL4.out ho5 hg5
          have HNew := Lib.hid hnew
          clear hnew ho5 hg5 y0 y1 y2 y3
          go_wp2
          go_roundw
          case rel => exact ⟨k + 1, by go_num, by omega, HNew.out⟩
          case measure => simp [intOf]; omega
      · have hke : k = x.m.ps.length := by omega
        subst hke
        obtain ⟨L, hL1, hL2, hL3, hL4⟩ := HT.out.out
        rw [List.take_length] at hL2
        obtain ⟨D, dc, hv, _, _⟩ := own_slice hL3
        subst hv
        have ff := HT.out.box.frozen 9
        have hk6 := keeps_blk HT.out.box 9 (.slice D x.m.ps.length dc)
        have box6 : Blk (wr.setCell ⟨w.heap.size, 9, none⟩ (.slice D x.m.ps.length dc)) w.heap.size 38 #[.int .i64 x.m.kd, .int .i64 x.m.fr, .int .i64 x.m.vw, .int .i64 x.m.ins, .int .i64 x.m.sq, .int .i64 x.m.rs, .slice B1 x.m.bt.length e1, .slice B2 x.m.vs.length e2, .slice B3 x.m.cs.length e3, .slice D x.m.ps.length dc] := HT.out.box.set_ 9 (.slice D x.m.ps.length dc)
        have res6 := HT.out.res.far (show w.heap.size + 1 ≠ (⟨w.heap.size, 9, none⟩ : Addr).block from by show w.heap.size + 1 ≠ w.heap.size; omega) (.slice D x.m.ps.length dc)
        have low6 := HT.out.low.setCell (p := ⟨w.heap.size, 9, none⟩) (Nat.le_refl _) (.slice D x.m.ps.length dc)
        have own6 : Ms.Own (wr.setCell ⟨w.heap.size, 9, none⟩ (.slice D x.m.ps.length dc)) (w.heap.size + 2) ⟨x.m, B1, e1, B2, e2, B3, e3, D, dc⟩ :=
          Ms.Own.keeps (w := wr) ⟨HT.out.bt, HT.out.vs, HT.out.cs, ⟨L, hL2, by rw [hL1]; exact hL3, hL4⟩⟩ hk6
        clear hL1 hL2 hL3 hL4 hk6
        go_upto_region 10 with fail
        obtain ⟨w6, hw6⟩ : ∃ w6, wr.setCell ⟨w.heap.size, 9, none⟩ (.slice D x.m.ps.length dc) = w6 := ⟨_, rfl⟩
        rw [hw6] at box6 res6 low6 own6 ⊢
        have HTh := Lib.hid (there_ten res6)
        obtain ⟨wz, hwz⟩ : ∃ wz, w6.setCells (w.heap.size + 1) 0 [.int .i64 x.m.kd, .int .i64 x.m.fr, .int .i64 x.m.vw, .int .i64 x.m.ins, .int .i64 x.m.sq, .int .i64 x.m.rs, .slice B1 x.m.bt.length e1, .slice B2 x.m.vs.length e2, .slice B3 x.m.cs.length e3, .slice D x.m.ps.length dc] = wz := ⟨_, rfl⟩
        have lowz : Below w.heap.size w wz := by rw [← hwz]; exact low_ten low6 (Nat.le_succ _) _ _ _ _ _ _ _ _ _ _
        have blkz : Blk wz (w.heap.size + 1) 38 #[.int .i64 x.m.kd, .int .i64 x.m.fr, .int .i64 x.m.vw, .int .i64 x.m.ins, .int .i64 x.m.sq, .int .i64 x.m.rs, .slice B1 x.m.bt.length e1, .slice B2 x.m.vs.length e2, .slice B3 x.m.cs.length e3, .slice D x.m.ps.length dc] := by rw [← hwz]; exact blk_ten res6 _ _ _ _ _ _ _ _ _ _
        have ownz : Ms.Own wz (w.heap.size + 2) ⟨x.m, B1, e1, B2, e2, B3, e3, D, dc⟩ := by rw [← hwz]; exact own6.keeps (keeps_ten res6 _ _ _ _ _ _ _ _ _ _)
        have z0 : w6.cell? ⟨w.heap.size, 0, none⟩ = some (.int .i64 x.m.kd) := box6.cell 0
        have z1 : w6.cell? ⟨w.heap.size, 1, none⟩ = some (.int .i64 x.m.fr) := box6.cell 1
        have z2 : w6.cell? ⟨w.heap.size, 2, none⟩ = some (.int .i64 x.m.vw) := box6.cell 2
        have z3 : w6.cell? ⟨w.heap.size, 3, none⟩ = some (.int .i64 x.m.ins) := box6.cell 3
        have z4 : w6.cell? ⟨w.heap.size, 4, none⟩ = some (.int .i64 x.m.sq) := box6.cell 4
        have z5 : w6.cell? ⟨w.heap.size, 5, none⟩ = some (.int .i64 x.m.rs) := box6.cell 5
        have z6 : w6.cell? ⟨w.heap.size, 6, none⟩ = some (.slice B1 x.m.bt.length e1) := box6.cell 6
        have z7 : w6.cell? ⟨w.heap.size, 7, none⟩ = some (.slice B2 x.m.vs.length e2) := box6.cell 7
        have z8 : w6.cell? ⟨w.heap.size, 8, none⟩ = some (.slice B3 x.m.cs.length e3) := box6.cell 8
        have z9 : w6.cell? ⟨w.heap.size, 9, none⟩ = some (.slice D x.m.ps.length dc) := box6.cell 9
        have y0 : wz.cell? ⟨w.heap.size + 1, 0, none⟩ = some (.int .i64 x.m.kd) := blkz.cell 0
        have y1 : wz.cell? ⟨w.heap.size + 1, 1, none⟩ = some (.int .i64 x.m.fr) := blkz.cell 1
        have y2 : wz.cell? ⟨w.heap.size + 1, 2, none⟩ = some (.int .i64 x.m.vw) := blkz.cell 2
        have y3 : wz.cell? ⟨w.heap.size + 1, 3, none⟩ = some (.int .i64 x.m.ins) := blkz.cell 3
        have y4 : wz.cell? ⟨w.heap.size + 1, 4, none⟩ = some (.int .i64 x.m.sq) := blkz.cell 4
        have y5 : wz.cell? ⟨w.heap.size + 1, 5, none⟩ = some (.int .i64 x.m.rs) := blkz.cell 5
        have y6 : wz.cell? ⟨w.heap.size + 1, 6, none⟩ = some (.slice B1 x.m.bt.length e1) := blkz.cell 6
        have y7 : wz.cell? ⟨w.heap.size + 1, 7, none⟩ = some (.slice B2 x.m.vs.length e2) := blkz.cell 7
        have y8 : wz.cell? ⟨w.heap.size + 1, 8, none⟩ = some (.slice B3 x.m.cs.length e3) := blkz.cell 8
        have y9 : wz.cell? ⟨w.heap.size + 1, 9, none⟩ = some (.slice D x.m.ps.length dc) := blkz.cell 9
        have HWz := Lib.hid hwz
        have HLz := Lib.hid lowz
        have HOz := Lib.hid (ownz.base (Nat.le_add_right _ 2))
        clear hw6 hwz lowz ownz blkz box6 res6 low6 own6 ff c9
        go_wp2_with (refine wpList_store_mid rfl 38 (.tmp 2) (.tmp 44) rfl (w.heap.size + 1) 0 #[.int .i64 x.m.kd, .int .i64 x.m.fr, .int .i64 x.m.vw, .int .i64 x.m.ins, .int .i64 x.m.sq, .int .i64 x.m.rs, .slice B1 x.m.bt.length e1, .slice B2 x.m.vs.length e2, .slice B3 x.m.cs.length e3, .slice D x.m.ps.length dc] rfl rfl HTh.out msg_size (one_ten _ _ _ _ _ _ _ _ _ _ _ _ _ _ _ _ _ _) ?_; rw [HWz.out])
        refine bodyPost_ret (v := .agg #[.int .i64 x.m.kd, .int .i64 x.m.fr, .int .i64 x.m.vw, .int .i64 x.m.ins, .int .i64 x.m.sq, .int .i64 x.m.rs, .slice B1 x.m.bt.length e1, .slice B2 x.m.vs.length e2, .slice B3 x.m.cs.length e3, .slice D x.m.ps.length dc]) ?_ ?_ ?_
        case refine_2 => rfl
        case refine_3 => exact ⟨⟨x.m, B1, e1, B2, e2, B3, e3, D, dc⟩, rfl, rfl, HOz.out, HLz.out⟩
        simp [results, Tryz.results31, go_sem, y0, y1, y2, y3, y4, y5, y6, y7, y8, y9]
end Go.Proofs.YtbebfgfpdcdcoaaGreat
