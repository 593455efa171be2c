/- The contract of msgs.Seal. -/
import Derived.Test.YtbebfgfpdcdcoabOMsgBody
import Derived.Test.YtbebfgfpdcdcoabOS5
import Derived.Test.YtbebfgfpdcdcoabOS0
import Derived.Test.YtbebfgfpdcdcoabONotary
import Derived.Test.YtbebfgfpdcdcoabOS4
import Derived.Test.YtbebfgfpdcdcoabOMsgParse
import Derived.Deep.RegionHeld3
namespace Go.Proofs.Ytbebfgfpdcdcoab
open Go.RowKit

/-- What a message's seal is given for. -/
def deedM (m : Mg) (bs : List Int) : Deed := (m.fr, strOfNums bs)
/-- What Seal does and answers. -/
def SealPost (m : Mg) (l : List Deed) (nb bm : Nat) (w : World) (e : Ending) (w' : World) : Prop :=
  (bodyM m = none ∧ e = .returned (.tuple #[.slice none 0 0, .bool false]) ∧ Below w.heap.size w w') ∨
  (∃ bs, bodyM m = some bs ∧ Nt w' nb bm (sealed l (deedM m bs)) ∧ Turn (fun k => k = bm) w w' ∧
    ((∃ es A c, envS (sealS l (deedM m bs)) bs = some es ∧ e = .returned (.tuple #[.slice A es.length c, .bool true]) ∧ w'.ownsRow w.heap.size 5 1 (.slice A es.length c) es.length (u8s es)) ∨
      (envS (sealS l (deedM m bs)) bs = none ∧ e = .returned (.tuple #[.slice none 0 0, .bool false]))))
set_option maxHeartbeats 4000000 in
set_option maxRecDepth 100000 in
theorem mseal_any (x : Ms) {w : World} (h : x.In w w.heap.size) (hsz : 6 * x.m.toks.length ≤ 70368744177664) (hfr : fit x.m.fr) {nb bm : Nat} {l : List Deed} (hN : Nt w nb bm l) (hlen : l.length ≤ 1000000) :
    Calls Try.prog 33 #[.agg #[.int .i64 x.m.kd, .int .i64 x.m.fr, .int .i64 x.m.vw, .int .i64 x.m.ins, .int .i64 x.m.sq, .int .i64 x.m.rs, .slice x.A1 x.m.bt.length x.c1, .slice x.A2 x.m.vs.length x.c2, .slice x.A3 x.m.cs.length x.c3, .slice x.A4 x.m.ps.length x.c4], .pointer (some ⟨nb, 0, none⟩)] w (SealPost x.m l nb bm w) := by
  have hb1 : Below w.heap.size w (w.alloc (.cells #[.int .i64 x.m.kd, .int .i64 x.m.fr, .int .i64 x.m.vw, .int .i64 x.m.ins, .int .i64 x.m.sq, .int .i64 x.m.rs, .slice x.A1 x.m.bt.length x.c1, .slice x.A2 x.m.vs.length x.c2, .slice x.A3 x.m.cs.length x.c3, .slice x.A4 x.m.ps.length x.c4] 29)) := (Below.refl _ w).alloc (Nat.le_refl _) _
  have HB1 := Lib.hid hb1
  have HBl := Lib.hid (Blk.new w 29 #[.int .i64 x.m.kd, .int .i64 x.m.fr, .int .i64 x.m.vw, .int .i64 x.m.ins, .int .i64 x.m.sq, .int .i64 x.m.rs, .slice x.A1 x.m.bt.length x.c1, .slice x.A2 x.m.vs.length x.c2, .slice x.A3 x.m.cs.length x.c3, .slice x.A4 x.m.ps.length x.c4])
  have HI := Lib.hid ((h.reads (Reads.below hb1 (Nat.le_refl _))).reads (Reads.more hb1.size))
  have HN := Lib.hid (hN.below hb1)
  have HL := Lib.hid hN.lt
  clear h hN hb1
  go_enter Try.func33, Try.ntmps33
  go_wp2_with fail
  obtain ⟨w1, hw1⟩ : ∃ w1, (w.alloc (.cells #[.int .i64 x.m.kd, .int .i64 x.m.fr, .int .i64 x.m.vw, .int .i64 x.m.ins, .int .i64 x.m.sq, .int .i64 x.m.rs, .slice x.A1 x.m.bt.length x.c1, .slice x.A2 x.m.vs.length x.c2, .slice x.A3 x.m.cs.length x.c3, .slice x.A4 x.m.ps.length x.c4] 29)) = w1 := ⟨_, rfl⟩
  rw [hw1] at HB1 HBl HI HN ⊢
  clear hw1
  refine (body_any x w1 HI.out hsz).mono ?_
  rintro e w2 ⟨hb2, ⟨bs, A, c, hbs, rfl, ho⟩ | ⟨hbs, rfl⟩⟩
  · have HB2 := Lib.hid hb2
    have HBS := Lib.hid hbs
    have HO := Lib.hid ho
    obtain ⟨n, hn⟩ : ∃ n, bs.length = n := ⟨_, rfl⟩
    have hn1 : n ≤ 65536 := by rw [← hn]; exact bodyM_len hbs
    rw [hn] at HO ⊢
    have HNn := Lib.hid hn
    have d1 := (HBl.out.below hb2 HBl.out.lt).cell 1
    simp only [List.getElem?_toArray, List.getElem?_cons_zero, List.getElem?_cons_succ] at d1
    clear hb2 hbs ho hn
    go_wp2_with fail
    refine (seal_any (HN.out.below HB2.out) hlen hfr (Has.own HO.out) HNn.out (by unfold maxLen; omega)).mono ?_
    rintro e w3 ⟨rfl, hnt, ht⟩
    have ho3 := ht.own HO.out (fun g hg => by
      have h1 := (HO.out.lt g hg).1
      have h2 := HL.out.2
      have h3 := HB1.out.size
      omega)
    have HT := Lib.hid ((((Turn.of_below (Z := fun k => k = bm) HB1.out).trans (Turn.of_below HB2.out))).trans ht)
    have HN3 := Lib.hid hnt
    have HO3 := Lib.hid ho3
    obtain ⟨sl, hsl⟩ : ∃ sl, sealS l (x.m.fr, strOfNums bs) = sl := ⟨_, rfl⟩
    rw [hsl]
    have HSl := Lib.hid hsl
    clear hnt ht ho3 hsl d1
    go_wp2_with fail
    refine (envelope_any sl HNn.out (by omega) _ (Has.own HO3.out) (gr_none HO3.out)).mono ?_
    rintro e w4 ⟨hb4, ⟨es, A4, c4, hes, rfl, ho4⟩ | ⟨hes, rfl⟩⟩
    · have HT4 := Lib.hid (HT.out.trans (Turn.of_below hb4))
      have HN4 := Lib.hid (HN3.out.below hb4)
      have HE := Lib.hid hes
      have hle : w.heap.size ≤ w3.heap.size := HT.out.size
      have HO4 := Lib.hid (own_down ho4 hle)
      clear hb4 hes ho4 hle
      go_wp2_with fail
      go_ret2
      refine Or.inr ⟨bs, HBS.out, HN4.out, HT4.out, ?_⟩
      unfold deedM
      rw [HSl.out]
      exact Or.inl ⟨es, A4, c4, HE.out, rfl, HO4.out⟩
    · have HT4 := Lib.hid (HT.out.trans (Turn.of_below hb4))
      have HN4 := Lib.hid (HN3.out.below hb4)
      have HE := Lib.hid hes
      clear hb4 hes
      go_wp2_with fail
      go_ret2
      refine Or.inr ⟨bs, HBS.out, HN4.out, HT4.out, ?_⟩
      unfold deedM
      rw [HSl.out]
      exact Or.inr ⟨HE.out, rfl⟩
  · have HB2 := Lib.hid (HB1.out.trans (hb2.mono HB1.out.size))
    have HBS := Lib.hid hbs
    clear hb2 hbs
    go_wp2_with fail
    go_ret2
    exact Or.inl ⟨HBS.out, rfl, HB2.out⟩
end Go.Proofs.Ytbebfgfpdcdcoab
/- The contracts of msgs.Ballot and of the document's own. -/
namespace Go.Proofs.Ytbebfgfpdcdcoab
open Go.RowKit

/-- A node's vote for a certificate's batch. -/
def ballotM (kd nd : Int) (c : Ct) : Mg := ⟨kd, nd, c.vw, c.ins, c.sq, 0, c.bt, [], [], []⟩
set_option maxHeartbeats 1000000 in
set_option maxRecDepth 100000 in
theorem rballot_any (kd nd : Int) (x : Cs) (w : World) :
    Calls Try.prog 13 #[.int .i64 kd, .int .i64 nd, .agg #[.int .i64 x.c.vw, .int .i64 x.c.ins, .int .i64 x.c.sq, .slice x.A1 x.c.bt.length x.c1, .slice x.A2 x.c.vs.length x.c2]] w
      fun e w' => e = .returned (.agg #[.int .i64 kd, .int .i64 nd, .int .i64 x.c.vw, .int .i64 x.c.ins, .int .i64 x.c.sq, .int .i64 0, .slice x.A1 x.c.bt.length x.c1, .slice none 0 0, .slice none 0 0, .slice none 0 0]) ∧ Below w.heap.size w w' := by
  have HB := Lib.hid (fun (cs ds : Array Value) => show Below w.heap.size w ((w.alloc (.cells cs 42)).alloc (.cells ds 29)) from ((Below.refl _ w).alloc (Nat.le_refl _) _).alloc (by simp) _)
  go_enter Try.func13, Try.ntmps13
  go_wp2
  refine bodyPost_ret (v := .agg #[.int .i64 kd, .int .i64 nd, .int .i64 x.c.vw, .int .i64 x.c.ins, .int .i64 x.c.sq, .int .i64 0, .slice x.A1 x.c.bt.length x.c1, .slice none 0 0, .slice none 0 0, .slice none 0 0]) ?_ ?_ ?_
  case refine_2 => rfl
  case refine_3 => exact ⟨rfl, HB.out _ _⟩
  simp [results, Try.results13, go_sem]
set_option maxHeartbeats 4000000 in
set_option maxRecDepth 100000 in
theorem ballot_any (kd nd : Int) (x : Cs) (w : World) (hx : x.In w w.heap.size) (hm : x.c.bt.length ≤ 1000000) :
    Calls Try.prog 11 #[.int .i64 kd, .int .i64 nd, .agg #[.int .i64 x.c.vw, .int .i64 x.c.ins, .int .i64 x.c.sq, .slice x.A1 x.c.bt.length x.c1, .slice x.A2 x.c.vs.length x.c2]] w
      fun e w' => ∃ A c, e = .returned (.agg #[.int .i64 kd, .int .i64 nd, .int .i64 x.c.vw, .int .i64 x.c.ins, .int .i64 x.c.sq, .int .i64 0, .slice A x.c.bt.length c, .slice none 0 0, .slice none 0 0, .slice none 0 0]) ∧ w'.ownsRow w.heap.size 33 6 (.slice A x.c.bt.length c) x.c.bt.length (reqCells x.c.bt) ∧ Below w.heap.size w w' := by
  have hb0 : Below w.heap.size w ((w.alloc (.cells #[.int .i64 x.c.vw, .int .i64 x.c.ins, .int .i64 x.c.sq, .slice x.A1 x.c.bt.length x.c1, .slice x.A2 x.c.vs.length x.c2] 42)).alloc (.cells #[.int .i64 0, .int .i64 0, .int .i64 0, .int .i64 0, .int .i64 0, .int .i64 0, .slice none 0 0, .slice none 0 0, .slice none 0 0, .slice none 0 0] 29)) := ((Below.refl _ w).alloc (Nat.le_refl _) _).alloc (by simp) _
  have HB0 := Lib.hid hb0
  have HI := Lib.hid (hx.bt.below hb0 (Nat.le_refl _))
  clear hx hb0
  go_enter Try.func11, Try.ntmps11
  go_wp2_with fail
  obtain ⟨w0, hw0⟩ : ∃ w0, ((w.alloc (.cells #[.int .i64 x.c.vw, .int .i64 x.c.ins, .int .i64 x.c.sq, .slice x.A1 x.c.bt.length x.c1, .slice x.A2 x.c.vs.length x.c2] 42)).alloc (.cells #[.int .i64 0, .int .i64 0, .int .i64 0, .int .i64 0, .int .i64 0, .int .i64 0, .slice none 0 0, .slice none 0 0, .slice none 0 0, .slice none 0 0] 29)) = w0 := ⟨_, rfl⟩
  have HC := Lib.hid (show Blk w0 w.heap.size 42 #[.int .i64 x.c.vw, .int .i64 x.c.ins, .int .i64 x.c.sq, .slice x.A1 x.c.bt.length x.c1, .slice x.A2 x.c.vs.length x.c2] by rw [← hw0]; exact (Blk.new _ _ _).alloc _)
  have HM := Lib.hid (show Blk w0 (w.heap.size + 1) 29 #[.int .i64 0, .int .i64 0, .int .i64 0, .int .i64 0, .int .i64 0, .int .i64 0, .slice none 0 0, .slice none 0 0, .slice none 0 0, .slice none 0 0] by rw [← hw0]; exact Blk.new1 _ _ _ _)
  rw [hw0] at HB0 HI ⊢
  clear hw0
  have d0 := HC.out.cell 0
  have d1 := HC.out.cell 1
  have d2 := HC.out.cell 2
  have d3 := HC.out.cell 3
  simp only [List.getElem?_toArray, List.getElem?_cons_zero, List.getElem?_cons_succ] at d0 d1 d2 d3
  go_region_held3 (fun w' => w'.cell? ⟨w.heap.size, 0, none⟩ = some (.int .i64 x.c.vw) ∧ w'.cell? ⟨w.heap.size, 1, none⟩ = some (.int .i64 x.c.ins) ∧ w'.cell? ⟨w.heap.size, 2, none⟩ = some (.int .i64 x.c.sq) ∧ w'.cell? ⟨w.heap.size, 3, none⟩ = some (.slice x.A1 x.c.bt.length x.c1)) (go_keep)
    (first | (go_at_call 35; refine (mq_clone (B := w.heap.size) (c := x.c1) (zs := x.c.bt) HI.out.drew rfl hm).mono ?_; rintro e w2 ⟨v, rfl, ho, hb⟩; obtain ⟨A2, c2, rfl, _, _⟩ := own_slice ho; have q0 := (Below.cell hb (p := ⟨w.heap.size, 0, none⟩) HC.out.lt).trans d0; have q1 := (Below.cell hb (p := ⟨w.heap.size, 1, none⟩) HC.out.lt).trans d1; have q2 := (Below.cell hb (p := ⟨w.heap.size, 2, none⟩) HC.out.lt).trans d2; have q3 := (Below.cell hb (p := ⟨w.heap.size, 3, none⟩) HC.out.lt).trans d3; have hB2 := Blk.below (Blk.drew HM.out) hb HM.out.lt; have z0 : w2.cell? ⟨w.heap.size + 1, 0, none⟩ = some (.int .i64 0) := Blk.cell hB2 0; have z1 : w2.cell? ⟨w.heap.size + 1, 1, none⟩ = some (.int .i64 0) := Blk.cell hB2 1; have z2 : w2.cell? ⟨w.heap.size + 1, 2, none⟩ = some (.int .i64 0) := Blk.cell hB2 2; have z3 : w2.cell? ⟨w.heap.size + 1, 3, none⟩ = some (.int .i64 0) := Blk.cell hB2 3; have z4 : w2.cell? ⟨w.heap.size + 1, 4, none⟩ = some (.int .i64 0) := Blk.cell hB2 4; have z5 : w2.cell? ⟨w.heap.size + 1, 5, none⟩ = some (.int .i64 0) := Blk.cell hB2 5; have z6 : w2.cell? ⟨w.heap.size + 1, 6, none⟩ = some (.slice none 0 0) := Blk.cell hB2 6; have z7 : w2.cell? ⟨w.heap.size + 1, 7, none⟩ = some (.slice none 0 0) := Blk.cell hB2 7; have z8 : w2.cell? ⟨w.heap.size + 1, 8, none⟩ = some (.slice none 0 0) := Blk.cell hB2 8; have z9 : w2.cell? ⟨w.heap.size + 1, 9, none⟩ = some (.slice none 0 0) := Blk.cell hB2 9; have f0 := Blk.frozen hB2 0; have f1 := Blk.frozen hB2 1; have f2 := Blk.frozen hB2 2; have f3 := Blk.frozen hB2 3; have f4 := Blk.frozen hB2 4; have f5 := Blk.frozen hB2 5; have f6 := Blk.frozen hB2 6; have f7 := Blk.frozen hB2 7; have f8 := Blk.frozen hB2 8; have f9 := Blk.frozen hB2 9))
  have hk := keeps_ten hB2 (.int .i64 kd) (.int .i64 nd) (.int .i64 x.c.vw) (.int .i64 x.c.ins) (.int .i64 x.c.sq) (.int .i64 0) (.slice A2 x.c.bt.length c2) (.slice none 0 0) (.slice none 0 0) (.slice none 0 0)
  have HO := Lib.hid (own_down (hk _ _ _ _ _ _ (by decide) ho) (show w.heap.size ≤ w0.drew.heap.size from HB0.out.size))
  have hb5 := ((((((((((((HB0.out).trans (RowKit.Below.mono (show Below w0.heap.size w0 w2 from ⟨hb.os, hb.tape, hb.output, hb.size, hb.block⟩) HB0.out.size)).setCell (p := ⟨w.heap.size + 1, 0, none⟩) (Nat.le_succ _) (.int .i64 kd)).setCell (p := ⟨w.heap.size + 1, 1, none⟩) (Nat.le_succ _) (.int .i64 nd)).setCell (p := ⟨w.heap.size + 1, 2, none⟩) (Nat.le_succ _) (.int .i64 x.c.vw)).setCell (p := ⟨w.heap.size + 1, 3, none⟩) (Nat.le_succ _) (.int .i64 x.c.ins)).setCell (p := ⟨w.heap.size + 1, 4, none⟩) (Nat.le_succ _) (.int .i64 x.c.sq)).setCell (p := ⟨w.heap.size + 1, 5, none⟩) (Nat.le_succ _) (.int .i64 0)).setCell (p := ⟨w.heap.size + 1, 6, none⟩) (Nat.le_succ _) (.slice A2 x.c.bt.length c2)).setCell (p := ⟨w.heap.size + 1, 7, none⟩) (Nat.le_succ _) (.slice none 0 0)).setCell (p := ⟨w.heap.size + 1, 8, none⟩) (Nat.le_succ _) (.slice none 0 0)).setCell (p := ⟨w.heap.size + 1, 9, none⟩) (Nat.le_succ _) (.slice none 0 0))
  have HB5 := Lib.hid hb5
  clear hb5 hk ho hb q0 q1 q2 q3 d0 d1 d2 d3 hB2
  go_wp2
  refine bodyPost_ret (v := .agg #[.int .i64 kd, .int .i64 nd, .int .i64 x.c.vw, .int .i64 x.c.ins, .int .i64 x.c.sq, .int .i64 0, .slice A2 x.c.bt.length c2, .slice none 0 0, .slice none 0 0, .slice none 0 0]) ?_ ?_ ?_
  case refine_2 => rfl
  case refine_3 => exact ⟨A2, c2, rfl, HO.out, HB5.out⟩
  simp [results, Try.results11, go_sem, z0, z1, z2, z3, z4, z5, z6, z7, z8, z9]
end Go.Proofs.Ytbebfgfpdcdcoab
