/- Which votes are sealed by their nodes: their meaning; package msgs' sealed, Voted, Changed. -/
import Derived.Test.YtbegjadohamkkaaGreatOS9
import Derived.Test.YtbegjadohamkkaaGreatOS6
import Derived.Test.YtbegjadohamkkaaGreatOS5
import Derived.Deep.RegionHeld3
import Derived.Deep.DeepCutAuto
namespace Go.Proofs.YtbegjadohamkkaaGreat
open Go.RowKit Go.Sort

def chgM (nd vw : Int) : Mg := ⟨6, nd, vw, 0, 0, 0, [], [], [], []⟩
def viewM (vw : Int) (q : Pt) : Mg := ⟨7, q.fr, vw, 0, 0, 0, [], q.vs, q.cs, []⟩
/-- Is it the seal of a message's sender? -/
def sealM (L : List Deed) (m : Mg) (sg : Int) : Bool := match bodyM m with | some bs => checkS L (deedM m bs) sg | none => false
def votedS (kd f : Int) (L : List Deed) (c : Ct) : Bool := risingS c.vs f && c.vs.all (fun v => sealM L (ballotM kd v.nd c) v.sg)
def certifiedS (kd f n : Int) (L : List Deed) (c : Ct) : Bool := spotS c.vw c.ins c.sq f && (rightS c.bt 4 n L && votedS kd f L c)
def changedS (vw f : Int) (L : List Deed) (l : List Vt) : Bool := decide (0 ≤ vw ∧ vw ≤ 11) && (risingS l f && l.all (fun v => sealM L (chgM v.nd vw) v.sg))
def viewedS (vw f n : Int) (L : List Deed) (q : Pt) : Bool := formS (viewM vw q) f n && (sealM L (viewM vw q) q.sg && (changedS (vw - 1) f L q.vs && q.cs.all (fun c => certifiedS 4 f n L c)))
theorem rises_node {N : Int} : ∀ {l : List Vt} {last : Int}, risesF N last l = true → ∀ v ∈ l, last < v.nd ∧ v.nd < N
  | v :: l, last, h, u, hu => by
    unfold risesF at h
    rw [Bool.and_eq_true, decide_eq_true_eq] at h
    rcases List.mem_cons.1 hu with rfl | hu
    · exact h.1
    · have := rises_node h.2 u hu
      omega
theorem rising_node {l : List Vt} {f : Int} (h : risingS l f = true) : ∀ v ∈ l, 0 ≤ v.nd ∧ v.nd < 13 := fun v hv => by
  unfold risingS at h
  rw [Bool.and_eq_true, decide_eq_true_eq] at h
  have := rises_node h.2 v hv
  omega
theorem ballot_toks (kd nd : Int) (c : Ct) : (ballotM kd nd c).toks.length = 10 + 6 * c.bt.length := by
  have h1 : (listToks Ct.toks ([] : List Ct)).length = 1 := rfl
  have h2 : (listToks Pt.toks ([] : List Pt)).length = 1 := rfl
  simp only [Mg.toks, Mg.head, List.length_append, List.length_cons, List.length_nil, reqs_toks, votes_toks, ballotM, h1, h2]
  omega
set_option maxHeartbeats 2000000 in
set_option maxRecDepth 100000 in
theorem msealed_any (x : Ms) (sg : Int) {w : World} (h : x.In w w.heap.size) (hsz : 6 * x.m.toks.length ≤ 70368744177664) (hfr : fit x.m.fr) {nb bm : Nat} {L : List Deed} (hN : Nt w nb bm L) :
    Calls Tryz.prog 67 #[.agg #[.int .i64 x.m.kd, .int .i64 x.m.fr, .int .i64 x.m.vw, .int .i64 x.m.ins, .int .i64 x.m.sq, .int .i64 x.m.rs, .slice x.A1 x.m.bt.length x.c1, .slice x.A2 x.m.vs.length x.c2, .slice x.A3 x.m.cs.length x.c3, .slice x.A4 x.m.ps.length x.c4], .int .i64 sg, .pointer (some ⟨nb, 0, none⟩)] w fun e w' => e = .returned (.bool (sealM L x.m sg)) ∧ Below w.heap.size w w' := by
  have hb1 : Below w.heap.size w (w.alloc (.cells #[.int .i64 x.m.kd, .int .i64 x.m.fr, .int .i64 x.m.vw, .int .i64 x.m.ins, .int .i64 x.m.sq, .int .i64 x.m.rs, .slice x.A1 x.m.bt.length x.c1, .slice x.A2 x.m.vs.length x.c2, .slice x.A3 x.m.cs.length x.c3, .slice x.A4 x.m.ps.length x.c4] 38)) := (Below.refl _ w).alloc (Nat.le_refl _) _
  have HB1 := Lib.hid hb1
  have HBl := Lib.hid (Blk.new w 38 #[.int .i64 x.m.kd, .int .i64 x.m.fr, .int .i64 x.m.vw, .int .i64 x.m.ins, .int .i64 x.m.sq, .int .i64 x.m.rs, .slice x.A1 x.m.bt.length x.c1, .slice x.A2 x.m.vs.length x.c2, .slice x.A3 x.m.cs.length x.c3, .slice x.A4 x.m.ps.length x.c4])
  have HI := Lib.hid ((h.reads (Reads.below hb1 (Nat.le_refl _))).reads (Reads.more hb1.size))
  have HN := Lib.hid (hN.below hb1)
  have HFR := Lib.hid hfr
  clear h hN hb1 hfr
  go_enter Tryz.func67, Tryz.ntmps67
  go_wp2_with fail
  obtain ⟨w1, hw1⟩ : ∃ w1, (w.alloc (.cells #[.int .i64 x.m.kd, .int .i64 x.m.fr, .int .i64 x.m.vw, .int .i64 x.m.ins, .int .i64 x.m.sq, .int .i64 x.m.rs, .slice x.A1 x.m.bt.length x.c1, .slice x.A2 x.m.vs.length x.c2, .slice x.A3 x.m.cs.length x.c3, .slice x.A4 x.m.ps.length x.c4] 38)) = w1 := ⟨_, rfl⟩
  rw [hw1] at HB1 HBl HI HN ⊢
  clear hw1
  refine (body_any x w1 HI.out hsz).mono ?_
  rintro e w2 ⟨hb2, ⟨bs, A, c, hbs, rfl, ho⟩ | ⟨hbs, rfl⟩⟩
  · have HB2 := Lib.hid (HB1.out.trans (hb2.mono HB1.out.size))
    have HN2 := Lib.hid (HN.out.below hb2)
    have HO := Lib.hid ho
    have hl := bodyM_len hbs
    have HS := Lib.hid (show sealM L x.m sg = checkS L (deedM x.m bs) sg by unfold sealM; rw [hbs])
    obtain ⟨n, hn⟩ : ∃ n, bs.length = n := ⟨_, rfl⟩
    rw [hn] at HO hl ⊢
    have HNn := Lib.hid hn
    have d1 := (HBl.out.below hb2 HBl.out.lt).cell 1
    simp only [List.getElem?_toArray, List.getElem?_cons_zero, List.getElem?_cons_succ] at d1
    clear hb2 ho hn hbs
    go_wp2_with fail
    refine (check_any HN2.out HFR.out (k := sg) (c := c) (Has.own HO.out) HNn.out (by unfold maxLen; omega)).mono ?_
    rintro e w3 ⟨rfl, q, rfl⟩
    clear d1
    go_wp2_with fail
    go_ret
    exact ⟨by rw [HS.out]; simp [deedM], below_drewN HB2.out q⟩
  · have HB2 := Lib.hid (HB1.out.trans (hb2.mono HB1.out.size))
    have HS := Lib.hid (show sealM L x.m sg = false by unfold sealM; rw [hbs])
    clear hb2 hbs
    go_wp2_with fail
    go_ret
    exact ⟨by rw [HS.out]; rfl, HB2.out⟩
theorem ballot_own {w : World} {b c : Nat} {A : Option Addr} {kd nd : Int} {x : Ct} (h : w.ownsRow b 69 6 (.slice A x.bt.length c) x.bt.length (reqCells x.bt)) : (Ms.mk (ballotM kd nd x) A c none 0 none 0 none 0).In w w.heap.size :=
  ⟨Has.ownS h, Has.nil _ _ _, ⟨[], rfl, Has.nil _ _ _, by simp⟩, ⟨[], rfl, Has.nil _ _ _, by simp⟩⟩
theorem msealed_ballot {w : World} {b c : Nat} {A : Option Addr} (kd nd sg : Int) {x : Ct} (h : w.ownsRow b 69 6 (.slice A x.bt.length c) x.bt.length (reqCells x.bt)) (hbt : x.bt.length ≤ 1000000) (hnd : fit nd) {nb bm : Nat} {L : List Deed} (hN : Nt w nb bm L) :
    Calls Tryz.prog 67 #[.agg #[.int .i64 kd, .int .i64 nd, .int .i64 x.vw, .int .i64 x.ins, .int .i64 x.sq, .int .i64 0, .slice A x.bt.length c, .slice none 0 0, .slice none 0 0, .slice none 0 0], .int .i64 sg, .pointer (some ⟨nb, 0, none⟩)] w fun e w' => e = .returned (.bool (sealM L (ballotM kd nd x) sg)) ∧ Below w.heap.size w w' :=
  msealed_any ⟨ballotM kd nd x, A, c, none, 0, none, 0, none, 0⟩ sg (ballot_own h) (by rw [ballot_toks]; omega) hnd hN
set_option maxHeartbeats 8000000 in
set_option maxRecDepth 100000 in
theorem mvoted1 (v : Vt) (kd : Int) (x : Cs) {w : World} {gk gc gn nb bm : Nat} {L : List Deed} (hk : w.cell? ⟨gk, 0, none⟩ = some (.int .i64 kd)) (hc : Blk w gc 25 #[.int .i64 x.c.vw, .int .i64 x.c.ins, .int .i64 x.c.sq, .slice x.A1 x.c.bt.length x.c1, .slice x.A2 x.c.vs.length x.c2]) (hx : x.In w w.heap.size) (hn : w.cell? ⟨gn, 0, none⟩ = some (.pointer (some ⟨nb, 0, none⟩)))
    (hkb : gk < w.heap.size) (hnb : gn < w.heap.size) (hN : Nt w nb bm L) (hnd : fit v.nd) (hbt : x.c.bt.length ≤ 1000000) :
    Calls Tryz.prog 66 #[.agg #[.int .i64 v.nd, .int .i64 v.sg], .pointer (some ⟨gk, 0, none⟩), .pointer (some ⟨gc, 0, none⟩), .pointer (some ⟨gn, 0, none⟩)] w fun e w' => e = .returned (.bool (sealM L (ballotM kd v.nd x.c) v.sg)) ∧ Below w.heap.size w w' := by
  have hb1 : Below w.heap.size w (w.alloc (.cells #[.int .i64 v.nd, .int .i64 v.sg] 65)) := (Below.refl _ w).alloc (Nat.le_refl _) _
  have HB1 := Lib.hid hb1
  have HV := Lib.hid (Blk.new w 65 #[.int .i64 v.nd, .int .i64 v.sg])
  have HC := Lib.hid (hc.below hb1 hc.lt)
  have HK := Lib.hid ((hb1.cell hkb).trans hk)
  have HP := Lib.hid ((hb1.cell hnb).trans hn)
  have HKb := Lib.hid (Nat.lt_of_lt_of_le hkb hb1.size)
  have HPb := Lib.hid (Nat.lt_of_lt_of_le hnb hb1.size)
  have HI := Lib.hid ((hx.reads (Reads.below hb1 (Nat.le_refl _))).reads (Reads.more hb1.size))
  have HN := Lib.hid (hN.below hb1)
  have HND := Lib.hid hnd
  clear hb1 hk hc hx hn hkb hnb hN hnd
  go_enter Tryz.func66, Tryz.ntmps66
  go_wp2_with fail
  obtain ⟨w1, hw1⟩ : ∃ w1, (w.alloc (.cells #[.int .i64 v.nd, .int .i64 v.sg] 65)) = w1 := ⟨_, rfl⟩
  obtain ⟨gv, hgv⟩ : ∃ g, w.heap.size = g := ⟨_, rfl⟩
  rw [hw1] at HB1 HV HC HK HP HKb HPb HI HN ⊢
  rw [hgv] at HV ⊢
  clear hw1 hgv
  have v0 := HV.out.cell 0
  have v1 := HV.out.cell 1
  simp only [List.getElem?_toArray, List.getElem?_cons_zero, List.getElem?_cons_succ] at v0 v1
  have c0 := HC.out.cell 0
  have c1 := HC.out.cell 1
  have c2 := HC.out.cell 2
  have c3 := HC.out.cell 3
  have c4 := HC.out.cell 4
  simp only [List.getElem?_toArray, List.getElem?_cons_zero, List.getElem?_cons_succ] at c0 c1 c2 c3 c4
  have k0 := HK.out
  have p0 := HP.out
  have HId := Lib.hid (show x.In w1.drew w1.drew.heap.size from HI.out.reads (Reads.below (below_drewN (Below.refl _ w1) 1) (Nat.le_refl _)))
  go_region_held3 (fun w' => w'.cell? ⟨gv, 0, none⟩ = some (.int .i64 v.nd) ∧ w'.cell? ⟨gv, 1, none⟩ = some (.int .i64 v.sg) ∧ w'.cell? ⟨gk, 0, none⟩ = some (.int .i64 kd) ∧ w'.cell? ⟨gn, 0, none⟩ = some (.pointer (some ⟨nb, 0, none⟩)) ∧ w'.cell? ⟨gc, 0, none⟩ = some (.int .i64 x.c.vw) ∧ w'.cell? ⟨gc, 1, none⟩ = some (.int .i64 x.c.ins) ∧ w'.cell? ⟨gc, 2, none⟩ = some (.int .i64 x.c.sq) ∧ w'.cell? ⟨gc, 3, none⟩ = some (.slice x.A1 x.c.bt.length x.c1) ∧ w'.cell? ⟨gc, 4, none⟩ = some (.slice x.A2 x.c.vs.length x.c2))
    (first | exact ⟨r0, r1, r2, r3, r4, r5, r6, r7, r8⟩ | exact ⟨s0, s1, s2, s3, s4, s5, s6, s7, s8⟩ | go_keep)
    (first
      | (go_at_call 68; (with_reducible refine (ballot_any kd v.nd x w1.drew HId.out hbt).mono ?_); rintro e w2 ⟨A, c, rfl, ho, hb⟩; have HO := Lib.hid ho; have HB2 := Lib.hid (show Below w1.heap.size w1 w2 from ⟨hb.os, hb.tape, hb.output, hb.size, hb.block⟩); have r0 := (HB2.out.cell (p := ⟨gv, 0, none⟩) HV.out.lt).trans v0; have r1 := (HB2.out.cell (p := ⟨gv, 1, none⟩) HV.out.lt).trans v1; have r2 := (HB2.out.cell (p := ⟨gk, 0, none⟩) HKb.out).trans k0; have r3 := (HB2.out.cell (p := ⟨gn, 0, none⟩) HPb.out).trans p0; have r4 := (HB2.out.cell (p := ⟨gc, 0, none⟩) HC.out.lt).trans c0; have r5 := (HB2.out.cell (p := ⟨gc, 1, none⟩) HC.out.lt).trans c1; have r6 := (HB2.out.cell (p := ⟨gc, 2, none⟩) HC.out.lt).trans c2; have r7 := (HB2.out.cell (p := ⟨gc, 3, none⟩) HC.out.lt).trans c3; have r8 := (HB2.out.cell (p := ⟨gc, 4, none⟩) HC.out.lt).trans c4; clear ho hb)
      | (go_at_call 67; (with_reducible refine (msealed_ballot kd v.nd v.sg HO.out hbt HND.out (HN.out.below HB2.out)).mono ?_); rintro e w3 ⟨rfl, hb3⟩; have HB3 := Lib.hid hb3; have s0 := (hb3.cell (p := ⟨gv, 0, none⟩) (Nat.lt_of_lt_of_le HV.out.lt HB2.out.size)).trans r0; have s1 := (hb3.cell (p := ⟨gv, 1, none⟩) (Nat.lt_of_lt_of_le HV.out.lt HB2.out.size)).trans r1; have s2 := (hb3.cell (p := ⟨gk, 0, none⟩) (Nat.lt_of_lt_of_le HKb.out HB2.out.size)).trans r2; have s3 := (hb3.cell (p := ⟨gn, 0, none⟩) (Nat.lt_of_lt_of_le HPb.out HB2.out.size)).trans r3; have s4 := (hb3.cell (p := ⟨gc, 0, none⟩) (Nat.lt_of_lt_of_le HC.out.lt HB2.out.size)).trans r4; have s5 := (hb3.cell (p := ⟨gc, 1, none⟩) (Nat.lt_of_lt_of_le HC.out.lt HB2.out.size)).trans r5; have s6 := (hb3.cell (p := ⟨gc, 2, none⟩) (Nat.lt_of_lt_of_le HC.out.lt HB2.out.size)).trans r6; have s7 := (hb3.cell (p := ⟨gc, 3, none⟩) (Nat.lt_of_lt_of_le HC.out.lt HB2.out.size)).trans r7; have s8 := (hb3.cell (p := ⟨gc, 4, none⟩) (Nat.lt_of_lt_of_le HC.out.lt HB2.out.size)).trans r8; clear hb3))
  go_wp2_with fail
  go_ret
  exact ⟨by rfl, HB1.out.trans ((HB2.out.trans (HB3.out.mono HB2.out.size)).mono HB1.out.size)⟩
set_option maxHeartbeats 1000000 in
set_option maxRecDepth 100000 in
theorem mallvoted {w : World} {A : Option Addr} {c : Nat} {l : List Vt} (hh : Has w w.heap.size A (voteCells l)) (hl : l.length ≤ 1000000) (gk gc gn : Nat) (pr : Vt → Bool) (HC : ∀ v ∈ l, ∀ w', Below w.heap.size w w' → Calls Tryz.prog 66 #[.agg #[.int .i64 v.nd, .int .i64 v.sg], .pointer (some ⟨gk, 0, none⟩), .pointer (some ⟨gc, 0, none⟩), .pointer (some ⟨gn, 0, none⟩)] w' fun e w2 => e = .returned (.bool (pr v)) ∧ Below w'.heap.size w' w2) :
    Calls Tryz.prog 65 #[.slice A l.length c, .func (.func 66) #[] #[.pointer (some ⟨gk, 0, none⟩), .pointer (some ⟨gc, 0, none⟩), .pointer (some ⟨gn, 0, none⟩)]] w fun e w' => e = .returned (.bool (l.all pr)) ∧ Below w.heap.size w w' := by
  have H1 := Lib.hid hh
  have HCl := Lib.hid HC
  clear hh HC
  go_enter Tryz.func65, Tryz.ntmps65
  go_wp2_with fail
  go_loopw [9] (fun x wr => ∃ k : Nat, x = .int .i64 k ∧ k ≤ l.length ∧ Hid (Below w.heap.size w wr) ∧ Hid ((l.take k).all pr = true)) (fun x _ => l.length - (intOf x).toNat)
  case atStart => exact ⟨0, rfl, Nat.zero_le _, Below.refl _ _, rfl⟩
  case round =>
    obtain ⟨k, rfl, hk, HW, HT⟩ := hrel
    by_cases hlt : k < l.length
    · obtain ⟨ad, rfl, _, c0, c1⟩ := vote_at (H1.out.below HW.out (Nat.le_refl _)) hlt
      have HX := Lib.hid (show l[k]? = some l[k] from List.getElem?_eq_getElem hlt)
      have HM := Lib.hid (List.getElem_mem hlt)
      obtain ⟨x, hx⟩ : ∃ x, l[k] = x := ⟨_, rfl⟩
      rw [hx] at c0 c1 HX HM
      have HBx := Lib.hid (HW.out.alloc HW.out.size (.cells #[.int .i64 x.nd, .int .i64 x.sg] 65))
      have HC := Lib.hid (HCl.out x HM.out _ HBx.out)
      clear hx HM
      cases hv : pr x
      · have HE := Lib.hid (show l.all pr = false from all_far (p := pr) HX.out hv)
        rw [hv] at HC
        clear hv
        go_wp2_with (go_at_call 66; refine HC.out.mono ?_; rintro e w2 ⟨rfl, hb2⟩; have HB2 := Lib.hid (HBx.out.trans (hb2.mono HBx.out.size)); clear hb2)
        go_ret
        exact ⟨by rw [HE.out]; rfl, by assumption⟩
      · have HE := Lib.hid (show (l.take (k + 1)).all pr = true by rw [all_next HX.out, HT.out, hv]; rfl)
        rw [hv] at HC
        clear hv
        go_wp2_with (go_at_call 66; refine HC.out.mono ?_; rintro e w2 ⟨rfl, hb2⟩; have HB2 := Lib.hid (HBx.out.trans (hb2.mono HBx.out.size)); clear hb2)
        go_roundw
        case rel => exact ⟨k + 1, by go_num, by omega, by assumption, HE.out⟩
        case measure => simp [intOf]; omega
    · have HE := Lib.hid (show l.all pr = true by have := HT.out; rwa [List.take_of_length_le (by omega)] at this)
      go_wp2_with fail
      go_ret
      exact ⟨by rw [HE.out]; rfl, HW.out⟩
set_option maxHeartbeats 1000000 in
set_option maxRecDepth 100000 in
theorem mallchanged {w : World} {A : Option Addr} {c : Nat} {l : List Vt} (hh : Has w w.heap.size A (voteCells l)) (hl : l.length ≤ 1000000) (gk gn : Nat) (pr : Vt → Bool) (HC : ∀ v ∈ l, ∀ w', Below w.heap.size w w' → Calls Tryz.prog 107 #[.agg #[.int .i64 v.nd, .int .i64 v.sg], .pointer (some ⟨gk, 0, none⟩), .pointer (some ⟨gn, 0, none⟩)] w' fun e w2 => e = .returned (.bool (pr v)) ∧ Below w'.heap.size w' w2) :
    Calls Tryz.prog 65 #[.slice A l.length c, .func (.func 107) #[] #[.pointer (some ⟨gk, 0, none⟩), .pointer (some ⟨gn, 0, none⟩)]] w fun e w' => e = .returned (.bool (l.all pr)) ∧ Below w.heap.size w w' := by
  have H1 := Lib.hid hh
  have HCl := Lib.hid HC
  clear hh HC
  go_enter Tryz.func65, Tryz.ntmps65
  go_wp2_with fail
  go_loopw [9] (fun x wr => ∃ k : Nat, x = .int .i64 k ∧ k ≤ l.length ∧ Hid (Below w.heap.size w wr) ∧ Hid ((l.take k).all pr = true)) (fun x _ => l.length - (intOf x).toNat)
  case atStart => exact ⟨0, rfl, Nat.zero_le _, Below.refl _ _, rfl⟩
  case round =>
    obtain ⟨k, rfl, hk, HW, HT⟩ := hrel
    by_cases hlt : k < l.length
    · obtain ⟨ad, rfl, _, c0, c1⟩ := vote_at (H1.out.below HW.out (Nat.le_refl _)) hlt
      have HX := Lib.hid (show l[k]? = some l[k] from List.getElem?_eq_getElem hlt)
      have HM := Lib.hid (List.getElem_mem hlt)
      obtain ⟨x, hx⟩ : ∃ x, l[k] = x := ⟨_, rfl⟩
      rw [hx] at c0 c1 HX HM
      have HBx := Lib.hid (HW.out.alloc HW.out.size (.cells #[.int .i64 x.nd, .int .i64 x.sg] 65))
      have HC := Lib.hid (HCl.out x HM.out _ HBx.out)
      clear hx HM
      cases hv : pr x
      · have HE := Lib.hid (show l.all pr = false from all_far (p := pr) HX.out hv)
        rw [hv] at HC
        clear hv
        go_wp2_with (go_at_call 107; refine HC.out.mono ?_; rintro e w2 ⟨rfl, hb2⟩; have HB2 := Lib.hid (HBx.out.trans (hb2.mono HBx.out.size)); clear hb2)
        go_ret
        exact ⟨by rw [HE.out]; rfl, by assumption⟩
      · have HE := Lib.hid (show (l.take (k + 1)).all pr = true by rw [all_next HX.out, HT.out, hv]; rfl)
        rw [hv] at HC
        clear hv
        go_wp2_with (go_at_call 107; refine HC.out.mono ?_; rintro e w2 ⟨rfl, hb2⟩; have HB2 := Lib.hid (HBx.out.trans (hb2.mono HBx.out.size)); clear hb2)
        go_roundw
        case rel => exact ⟨k + 1, by go_num, by omega, by assumption, HE.out⟩
        case measure => simp [intOf]; omega
    · have HE := Lib.hid (show l.all pr = true by have := HT.out; rwa [List.take_of_length_le (by omega)] at this)
      go_wp2_with fail
      go_ret
      exact ⟨by rw [HE.out]; rfl, HW.out⟩
set_option maxHeartbeats 4000000 in
set_option maxRecDepth 100000 in
theorem mvoted_any (kd : Int) (x : Cs) (f : Int) {w : World} (hx : x.In w w.heap.size) (hs : x.Short) {nb bm : Nat} {L : List Deed} (hN : Nt w nb bm L) :
    Calls Tryz.prog 21 #[.int .i64 kd, .agg #[.int .i64 x.c.vw, .int .i64 x.c.ins, .int .i64 x.c.sq, .slice x.A1 x.c.bt.length x.c1, .slice x.A2 x.c.vs.length x.c2], .int .i64 f, .pointer (some ⟨nb, 0, none⟩)] w fun e w' => e = .returned (.bool (votedS kd f L x.c)) ∧ Below w.heap.size w w' := by
  have hmf : ∀ (fn : Fn) (first cap : Array Value) (w : World), (Instr.makeFunc fn first cap).run Tryz.prog w = .ok (.func fn first cap) w := fun _ _ _ _ => rfl
  obtain ⟨wa, hwa⟩ : ∃ wa, w.alloc (.cells #[.int .i64 kd] 3) = wa := ⟨_, rfl⟩
  obtain ⟨wb, hwb⟩ : ∃ wb, wa.alloc (.cells #[.int .i64 x.c.vw, .int .i64 x.c.ins, .int .i64 x.c.sq, .slice x.A1 x.c.bt.length x.c1, .slice x.A2 x.c.vs.length x.c2] 25) = wb := ⟨_, rfl⟩
  obtain ⟨wc, hwc⟩ : ∃ wc, wb.alloc (.cells #[.pointer (some ⟨nb, 0, none⟩)] 27) = wc := ⟨_, rfl⟩
  have hba : Below w.heap.size w wa := hwa ▸ (Below.refl _ w).alloc (Nat.le_refl _) _
  have hbb : Below wa.heap.size wa wb := hwb ▸ (Below.refl _ wa).alloc (Nat.le_refl _) _
  have hbc : Below wb.heap.size wb wc := hwc ▸ (Below.refl _ wb).alloc (Nat.le_refl _) _
  have hka : Blk wa w.heap.size 3 #[.int .i64 kd] := hwa ▸ Blk.new _ _ _
  have hcb : Blk wb wa.heap.size 25 #[.int .i64 x.c.vw, .int .i64 x.c.ins, .int .i64 x.c.sq, .slice x.A1 x.c.bt.length x.c1, .slice x.A2 x.c.vs.length x.c2] := hwb ▸ Blk.new _ _ _
  have hnc : Blk wc wb.heap.size 27 #[.pointer (some ⟨nb, 0, none⟩)] := hwc ▸ Blk.new _ _ _
  have HB := Lib.hid ((hba.trans (hbb.mono hba.size)).trans (hbc.mono (Nat.le_trans hba.size hbb.size)))
  have HK := Lib.hid ((hka.below hbb hka.lt).below hbc (Nat.lt_of_lt_of_le hka.lt hbb.size))
  have HC := Lib.hid (hcb.below hbc hcb.lt)
  have HP := Lib.hid hnc
  have HI := Lib.hid ((hx.reads (Reads.below HB.out (Nat.le_refl _))).reads (Reads.more HB.out.size))
  have HN := Lib.hid (hN.below HB.out)
  have HSh := Lib.hid hs
  have HRi := Lib.hid (rising_any (c := x.c2) (n := x.c.vs.length) HI.out.vs rfl (by have := hs.vs; unfold maxLen; omega) f)
  have sa : wa.heap.size = w.heap.size + 1 := by rw [← hwa]; simp
  have sb : wb.heap.size = w.heap.size + 2 := by rw [← hwb, World.size_alloc, sa]
  rw [sa] at HC
  rw [show wb.heap.size = w.heap.size + 1 + 1 from sb] at HP
  clear hba hbb hbc hka hcb hnc hx hs hN sa sb
  have hww : ((w.alloc (.cells #[.int .i64 kd] 3)).alloc (.cells #[.int .i64 x.c.vw, .int .i64 x.c.ins, .int .i64 x.c.sq, .slice x.A1 x.c.bt.length x.c1, .slice x.A2 x.c.vs.length x.c2] 25)).alloc (.cells #[.pointer (some ⟨nb, 0, none⟩)] 27) = wc := by rw [hwa, hwb, hwc]
  clear hwa hwb hwc
  have HWw := Lib.hid hww
  clear hww
  go_enter Tryz.func21, Tryz.ntmps21
  go_upto_region 1 with fail
  rw [HWw.out]
  obtain ⟨g, hg⟩ : ∃ g, w.heap.size = g := ⟨_, rfl⟩
  have HG := Lib.hid hg
  rw [hg] at HK HC HP ⊢
  clear hg
  have c0 := HC.out.cell 0
  have c1 := HC.out.cell 1
  have c2 := HC.out.cell 2
  have c3 := HC.out.cell 3
  have c4 := HC.out.cell 4
  simp only [List.getElem?_toArray, List.getElem?_cons_zero, List.getElem?_cons_succ] at c0 c1 c2 c3 c4
  cases hr : risingS x.c.vs f
  case false =>
    have HV := Lib.hid (show votedS kd f L x.c = false by unfold votedS; rw [hr]; rfl)
    rw [hr] at HRi
    clear hr
    go_wp2_with fail
    refine HRi.out.mono ?_
    rintro e w1 ⟨rfl, hb1⟩
    have HB1 := Lib.hid (HB.out.trans (hb1.mono HB.out.size))
    clear hb1
    go_wp2_with fail
    go_ret
    exact ⟨by rw [HV.out]; rfl, HB1.out⟩
  have HV := Lib.hid (show votedS kd f L x.c = x.c.vs.all (fun v => sealM L (ballotM kd v.nd x.c) v.sg) by unfold votedS; rw [hr]; rfl)
  have HNo := Lib.hid (rising_node hr)
  rw [hr] at HRi
  clear hr
  have HA := Lib.hid (fun w2 (hb : Below wc.heap.size wc w2) => mallvoted (w := w2) (c := x.c2) (Reads.more hb.size _ _ (Reads.below hb (Nat.le_refl _) _ _ HI.out.vs)) HSh.out.vs g (g + 1) (g + 1 + 1) (fun v => sealM L (ballotM kd v.nd x.c) v.sg)
    (fun v hv w' hb' => mvoted1 v kd x (((hb.trans (hb'.mono hb.size)).cell HK.out.lt).trans (HK.out.cell 0)) (HC.out.below (hb.trans (hb'.mono hb.size)) HC.out.lt) ((HI.out.reads (Reads.below (hb.trans (hb'.mono hb.size)) (Nat.le_refl _))).reads (Reads.more (hb.trans (hb'.mono hb.size)).size)) (((hb.trans (hb'.mono hb.size)).cell HP.out.lt).trans (HP.out.cell 0))
      (Nat.lt_of_lt_of_le HK.out.lt (hb.trans (hb'.mono hb.size)).size) (Nat.lt_of_lt_of_le HP.out.lt (hb.trans (hb'.mono hb.size)).size) (HN.out.below (hb.trans (hb'.mono hb.size))) (num_small (HNo.out v hv).1 (by have := (HNo.out v hv).2; omega)) HSh.out.bt))
  go_wp2_with fail
  refine HRi.out.mono ?_
  rintro e w1 ⟨rfl, hb1⟩
  have HB1 := Lib.hid (HB.out.trans (hb1.mono HB.out.size))
  have HA1 := Lib.hid (HA.out w1 hb1)
  have HC1 := Lib.hid (HC.out.below hb1 HC.out.lt)
  clear hb1 HA c0 c1 c2 c3 c4
  have c0 := HC1.out.cell 0
  have c1 := HC1.out.cell 1
  have c2 := HC1.out.cell 2
  have c3 := HC1.out.cell 3
  have c4 := HC1.out.cell 4
  simp only [List.getElem?_toArray, List.getElem?_cons_zero, List.getElem?_cons_succ] at c0 c1 c2 c3 c4
  go_wp2_with fail
  refine HA1.out.mono ?_
  rintro e w2 ⟨rfl, hb2⟩
  have HB2 := Lib.hid (HB1.out.trans (hb2.mono HB1.out.size))
  clear hb2
  go_wp2_with fail
  go_ret
  exact ⟨by rw [HV.out]; simp, HB2.out⟩
set_option maxHeartbeats 8000000 in
set_option maxRecDepth 100000 in
theorem mchanged1 (v : Vt) (vw : Int) {w : World} {gk gn nb bm : Nat} {L : List Deed} (hk : w.cell? ⟨gk, 0, none⟩ = some (.int .i64 vw)) (hn : w.cell? ⟨gn, 0, none⟩ = some (.pointer (some ⟨nb, 0, none⟩)))
    (hkb : gk < w.heap.size) (hnb : gn < w.heap.size) (hN : Nt w nb bm L) (hnd : fit v.nd) :
    Calls Tryz.prog 107 #[.agg #[.int .i64 v.nd, .int .i64 v.sg], .pointer (some ⟨gk, 0, none⟩), .pointer (some ⟨gn, 0, none⟩)] w fun e w' => e = .returned (.bool (sealM L (chgM v.nd vw) v.sg)) ∧ Below w.heap.size w w' := by
  have hb1 : Below w.heap.size w (w.alloc (.cells #[.int .i64 v.nd, .int .i64 v.sg] 65)) := (Below.refl _ w).alloc (Nat.le_refl _) _
  have HB1 := Lib.hid hb1
  have HV := Lib.hid (Blk.new w 65 #[.int .i64 v.nd, .int .i64 v.sg])
  have HK := Lib.hid ((hb1.cell hkb).trans hk)
  have HP := Lib.hid ((hb1.cell hnb).trans hn)
  have HN := Lib.hid (hN.below hb1)
  have HND := Lib.hid hnd
  clear hb1 hk hn hkb hnb hN hnd
  go_enter Tryz.func107, Tryz.ntmps107
  go_upto_region 1 with fail
  obtain ⟨w1, hw1⟩ : ∃ w1, (w.alloc (.cells #[.int .i64 v.nd, .int .i64 v.sg] 65)) = w1 := ⟨_, rfl⟩
  obtain ⟨gv, hgv⟩ : ∃ g, w.heap.size = g := ⟨_, rfl⟩
  rw [hw1] at HB1 HV HK HP HN ⊢
  rw [hgv] at HV ⊢
  clear hw1 hgv
  have v0 := HV.out.cell 0
  have v1 := HV.out.cell 1
  simp only [List.getElem?_toArray, List.getElem?_cons_zero, List.getElem?_cons_succ] at v0 v1
  have k0 := HK.out
  have p0 := HP.out
  go_wp2_with fail
  refine (msealed_any ⟨chgM v.nd vw, none, 0, none, 0, none, 0, none, 0⟩ v.sg ⟨Has.nil _ _ _, Has.nil _ _ _, ⟨[], rfl, Has.nil _ _ _, by simp⟩, ⟨[], rfl, Has.nil _ _ _, by simp⟩⟩ (by have : (chgM v.nd vw).toks.length = 10 := rfl; rw [this]; omega) HND.out HN.out).mono ?_
  rintro e w2 ⟨rfl, hb2⟩
  have HB2 := Lib.hid hb2
  clear hb2
  go_wp2_with fail
  go_ret
  exact ⟨by rfl, HB1.out.trans (HB2.out.mono HB1.out.size)⟩
set_option maxHeartbeats 4000000 in
set_option maxRecDepth 100000 in
theorem mchanged_any (vw : Int) {A : Option Addr} {c : Nat} {l : List Vt} (f : Int) {w : World} (hh : Has w w.heap.size A (voteCells l)) (hl : l.length ≤ 1000000) {nb bm : Nat} {L : List Deed} (hN : Nt w nb bm L) :
    Calls Tryz.prog 41 #[.int .i64 vw, .slice A l.length c, .int .i64 f, .pointer (some ⟨nb, 0, none⟩)] w fun e w' => e = .returned (.bool (changedS vw f L l)) ∧ Below w.heap.size w w' := by
  have hmf : ∀ (fn : Fn) (first cap : Array Value) (w : World), (Instr.makeFunc fn first cap).run Tryz.prog w = .ok (.func fn first cap) w := fun _ _ _ _ => rfl
  obtain ⟨wa, hwa⟩ : ∃ wa, w.alloc (.cells #[.int .i64 vw] 3) = wa := ⟨_, rfl⟩
  obtain ⟨wc, hwc⟩ : ∃ wc, wa.alloc (.cells #[.pointer (some ⟨nb, 0, none⟩)] 27) = wc := ⟨_, rfl⟩
  have hba : Below w.heap.size w wa := hwa ▸ (Below.refl _ w).alloc (Nat.le_refl _) _
  have hbc : Below wa.heap.size wa wc := hwc ▸ (Below.refl _ wa).alloc (Nat.le_refl _) _
  have hka : Blk wa w.heap.size 3 #[.int .i64 vw] := hwa ▸ Blk.new _ _ _
  have hnc : Blk wc wa.heap.size 27 #[.pointer (some ⟨nb, 0, none⟩)] := hwc ▸ Blk.new _ _ _
  have HB := Lib.hid (hba.trans (hbc.mono hba.size))
  have HK := Lib.hid (hka.below hbc hka.lt)
  have HP := Lib.hid hnc
  have HI := Lib.hid (Reads.more HB.out.size _ _ (Reads.below HB.out (Nat.le_refl _) _ _ hh))
  have HN := Lib.hid (hN.below HB.out)
  have KP := Lib.hid (fun w => mwithin vw 0 11 w)
  have sa : wa.heap.size = w.heap.size + 1 := by rw [← hwa]; simp
  rw [sa] at HP
  have hww : (w.alloc (.cells #[.int .i64 vw] 3)).alloc (.cells #[.pointer (some ⟨nb, 0, none⟩)] 27) = wc := by rw [hwa, hwc]
  have HWw := Lib.hid hww
  clear hba hbc hka hnc hh hN sa hwa hwc hww
  have HD := Lib.hid (show changedS vw f L l = ((decide (0 ≤ vw) && decide (vw ≤ 11)) && (risingS l f && l.all (fun v => sealM L (chgM v.nd vw) v.sg))) by unfold changedS; rw [Bool.decide_and])
  go_enter Tryz.func41, Tryz.ntmps41
  go_upto_region 1 with fail
  rw [HWw.out]
  obtain ⟨g, hg⟩ : ∃ g, w.heap.size = g := ⟨_, rfl⟩
  have HG := Lib.hid hg
  rw [hg] at HK HP ⊢
  clear hg
  have k0 := HK.out.cell 0
  simp only [List.getElem?_toArray, List.getElem?_cons_zero] at k0
  cases hi : (decide (0 ≤ vw) && decide (vw ≤ 11))
  case false =>
    rw [hi] at KP HD
    clear hi
    go_wp2_with fail
    refine (KP.out _).mono ?_
    rintro e w1 ⟨rfl, rfl⟩
    go_wp2_with fail
    go_ret
    exact ⟨by rw [HD.out]; rfl, HB.out⟩
  rw [hi] at KP HD
  clear hi
  have HRi := Lib.hid (rising_any (c := c) (n := l.length) HI.out rfl (by unfold maxLen; omega) f)
  cases hr : risingS l f
  case false =>
    rw [hr] at HRi HD
    clear hr
    go_wp2_with fail
    refine (KP.out _).mono ?_
    rintro e w1 ⟨rfl, rfl⟩
    go_wp2_with fail
    refine HRi.out.mono ?_
    rintro e w1 ⟨rfl, hb1⟩
    have HB1 := Lib.hid (HB.out.trans (hb1.mono HB.out.size))
    clear hb1
    go_wp2_with fail
    go_ret
    exact ⟨by rw [HD.out]; rfl, HB1.out⟩
  have HNo := Lib.hid (rising_node hr)
  rw [hr] at HRi HD
  clear hr
  have HA := Lib.hid (fun w2 (hb : Below wc.heap.size wc w2) => mallchanged (w := w2) (c := c) (Reads.more hb.size _ _ (Reads.below hb (Nat.le_refl _) _ _ HI.out)) hl g (g + 1) (fun v => sealM L (chgM v.nd vw) v.sg)
    (fun v hv w' hb' => mchanged1 v vw (((hb.trans (hb'.mono hb.size)).cell HK.out.lt).trans (HK.out.cell 0)) (((hb.trans (hb'.mono hb.size)).cell HP.out.lt).trans (HP.out.cell 0))
      (Nat.lt_of_lt_of_le HK.out.lt (hb.trans (hb'.mono hb.size)).size) (Nat.lt_of_lt_of_le HP.out.lt (hb.trans (hb'.mono hb.size)).size) (HN.out.below (hb.trans (hb'.mono hb.size))) (num_small (HNo.out v hv).1 (by have := (HNo.out v hv).2; omega))))
  go_wp2_with fail
  refine (KP.out _).mono ?_
  rintro e w1 ⟨rfl, rfl⟩
  go_wp2_with fail
  refine HRi.out.mono ?_
  rintro e w1 ⟨rfl, hb1⟩
  have HB1 := Lib.hid (HB.out.trans (hb1.mono HB.out.size))
  have HA1 := Lib.hid (HA.out w1 hb1)
  clear hb1 HA k0
  go_wp2_with fail
  refine HA1.out.mono ?_
  rintro e w2 ⟨rfl, hb2⟩
  have HB2 := Lib.hid (HB1.out.trans (hb2.mono HB1.out.size))
  clear hb2
  go_wp2_with fail
  go_ret
  exact ⟨by rw [HD.out]; simp, HB2.out⟩
end Go.Proofs.YtbegjadohamkkaaGreat
