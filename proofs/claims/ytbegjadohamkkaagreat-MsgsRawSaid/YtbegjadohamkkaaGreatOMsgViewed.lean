/- Which certificates and view changes are right: package msgs' Certified, Viewed. -/
import Derived.Test.YtbegjadohamkkaaGreatOMsgVoted
import Derived.Test.YtbegjadohamkkaaGreatOS5
import Derived.Test.YtbegjadohamkkaaGreatOS9
namespace Go.Proofs.YtbegjadohamkkaaGreat
open Go.RowKit Go.Sort

set_option maxHeartbeats 4000000 in
set_option maxRecDepth 100000 in
theorem mcertified_any (kd : Int) (x : Cs) (f n : Int) {w : World} (hx : x.In w w.heap.size) (hs : x.Short) {nb bm : Nat} {L : List Deed} (hN : Nt w nb bm L) :
    Calls Tryz.prog 19 #[.int .i64 kd, .agg #[.int .i64 x.c.vw, .int .i64 x.c.ins, .int .i64 x.c.sq, .slice x.A1 x.c.bt.length x.c1, .slice x.A2 x.c.vs.length x.c2], .int .i64 f, .int .i64 n, .pointer (some ⟨nb, 0, none⟩)] w fun e w' => e = .returned (.bool (certifiedS kd f n L x.c)) ∧ Below w.heap.size w w' := by
  have hb1 : Below w.heap.size w (w.alloc (.cells #[.int .i64 x.c.vw, .int .i64 x.c.ins, .int .i64 x.c.sq, .slice x.A1 x.c.bt.length x.c1, .slice x.A2 x.c.vs.length x.c2] 25)) := (Below.refl _ w).alloc (Nat.le_refl _) _
  have HB1 := Lib.hid hb1
  have HC := Lib.hid (Blk.new w 25 #[.int .i64 x.c.vw, .int .i64 x.c.ins, .int .i64 x.c.sq, .slice x.A1 x.c.bt.length x.c1, .slice x.A2 x.c.vs.length x.c2])
  have HI := Lib.hid ((hx.reads (Reads.below hb1 (Nat.le_refl _))).reads (Reads.more hb1.size))
  have HN := Lib.hid (hN.below hb1)
  have HSh := Lib.hid hs
  have KP := Lib.hid (fun w => mplaced x.c.vw x.c.ins x.c.sq f w)
  have HD := Lib.hid (show certifiedS kd f n L x.c = (spotS x.c.vw x.c.ins x.c.sq f && (rightS x.c.bt 4 n L && votedS kd f L x.c)) from rfl)
  clear hb1 hx hN hs
  go_enter Tryz.func19, Tryz.ntmps19
  go_upto_region 1 with fail
  obtain ⟨w1, hw1⟩ : ∃ w1, w.alloc (.cells #[.int .i64 x.c.vw, .int .i64 x.c.ins, .int .i64 x.c.sq, .slice x.A1 x.c.bt.length x.c1, .slice x.A2 x.c.vs.length x.c2] 25) = w1 := ⟨_, rfl⟩
  obtain ⟨g, hg⟩ : ∃ g, w.heap.size = g := ⟨_, rfl⟩
  rw [hw1] at HB1 HC HI HN ⊢
  rw [hg] at HC ⊢
  clear hw1 hg
  have c0 := HC.out.cell 0
  have c1 := HC.out.cell 1
  have c2 := HC.out.cell 2
  have c3 := HC.out.cell 3
  have c4 := HC.out.cell 4
  simp only [List.getElem?_toArray, List.getElem?_cons_zero, List.getElem?_cons_succ] at c0 c1 c2 c3 c4
  cases hp : spotS x.c.vw x.c.ins x.c.sq f
  case false =>
    rw [hp] at KP HD
    clear hp
    go_wp2_with fail
    refine (KP.out _).mono ?_
    rintro e w2 ⟨rfl, rfl⟩
    go_wp2_with fail
    go_ret
    exact ⟨by rw [HD.out]; rfl, HB1.out⟩
  rw [hp] at KP HD
  clear hp
  have KB := Lib.hid (rq_batch (c := x.c1) HN.out HI.out.bt (by have := HSh.out.bt; omega) 4 n)
  cases hr : rightS x.c.bt 4 n L
  case false =>
    rw [hr] at KB HD
    clear hr
    go_wp2_with fail
    refine (KP.out _).mono ?_
    rintro e w2 ⟨rfl, rfl⟩
    go_wp2_with fail
    refine KB.out.mono ?_
    rintro e w2 ⟨rfl, hb2⟩
    have HB2 := Lib.hid (HB1.out.trans (hb2.mono HB1.out.size))
    clear hb2
    go_wp2_with fail
    go_ret
    exact ⟨by rw [HD.out]; rfl, HB2.out⟩
  rw [hr] at KB HD
  clear hr
  go_wp2_with fail
  refine (KP.out _).mono ?_
  rintro e w2 ⟨rfl, rfl⟩
  go_wp2_with fail
  refine KB.out.mono ?_
  rintro e w2 ⟨rfl, hb2⟩
  have HB2 := Lib.hid (HB1.out.trans (hb2.mono HB1.out.size))
  have HC2 := Lib.hid (HC.out.below hb2 HC.out.lt)
  have KV := Lib.hid (mvoted_any kd x f ((HI.out.reads (Reads.below hb2 (Nat.le_refl _))).reads (Reads.more hb2.size)) HSh.out (HN.out.below hb2))
  clear hb2
  clear c0 c1 c2 c3 c4
  have c0 := HC2.out.cell 0
  have c1 := HC2.out.cell 1
  have c2 := HC2.out.cell 2
  have c3 := HC2.out.cell 3
  have c4 := HC2.out.cell 4
  simp only [List.getElem?_toArray, List.getElem?_cons_zero, List.getElem?_cons_succ] at c0 c1 c2 c3 c4
  go_wp2_with fail
  refine KV.out.mono ?_
  rintro e w3 ⟨rfl, hb3⟩
  have HB3 := Lib.hid (HB2.out.trans (hb3.mono HB2.out.size))
  clear hb3
  go_wp2_with fail
  go_ret
  exact ⟨by rw [HD.out]; simp, HB3.out⟩
set_option maxHeartbeats 2000000 in
set_option maxRecDepth 100000 in
theorem mviewed1 (x : Cs) (f n : Int) {w : World} {gf gn gp nb bm : Nat} {L : List Deed} (hf : w.cell? ⟨gf, 0, none⟩ = some (.int .i64 f)) (hn : w.cell? ⟨gn, 0, none⟩ = some (.int .i64 n)) (hp : w.cell? ⟨gp, 0, none⟩ = some (.pointer (some ⟨nb, 0, none⟩)))
    (hfb : gf < w.heap.size) (hnb : gn < w.heap.size) (hpb : gp < w.heap.size) (hx : x.In w w.heap.size) (hs : x.Short) (hN : Nt w nb bm L) :
    Calls Tryz.prog 109 #[.agg #[.int .i64 x.c.vw, .int .i64 x.c.ins, .int .i64 x.c.sq, .slice x.A1 x.c.bt.length x.c1, .slice x.A2 x.c.vs.length x.c2], .pointer (some ⟨gf, 0, none⟩), .pointer (some ⟨gn, 0, none⟩), .pointer (some ⟨gp, 0, none⟩)] w fun e w' => e = .returned (.bool (certifiedS 4 f n L x.c)) ∧ Below w.heap.size w w' := by
  have hb1 : Below w.heap.size w (w.alloc (.cells #[.int .i64 x.c.vw, .int .i64 x.c.ins, .int .i64 x.c.sq, .slice x.A1 x.c.bt.length x.c1, .slice x.A2 x.c.vs.length x.c2] 25)) := (Below.refl _ w).alloc (Nat.le_refl _) _
  have HB1 := Lib.hid hb1
  have HC := Lib.hid (Blk.new w 25 #[.int .i64 x.c.vw, .int .i64 x.c.ins, .int .i64 x.c.sq, .slice x.A1 x.c.bt.length x.c1, .slice x.A2 x.c.vs.length x.c2])
  have HF := Lib.hid ((hb1.cell hfb).trans hf)
  have HNn := Lib.hid ((hb1.cell hnb).trans hn)
  have HP := Lib.hid ((hb1.cell hpb).trans hp)
  have KC := Lib.hid (mcertified_any 4 x f n ((hx.reads (Reads.below hb1 (Nat.le_refl _))).reads (Reads.more hb1.size)) hs (hN.below hb1))
  clear hb1 hf hn hp hfb hnb hpb hx hs hN
  go_enter Tryz.func109, Tryz.ntmps109
  go_upto_region 1 with fail
  obtain ⟨w1, hw1⟩ : ∃ w1, w.alloc (.cells #[.int .i64 x.c.vw, .int .i64 x.c.ins, .int .i64 x.c.sq, .slice x.A1 x.c.bt.length x.c1, .slice x.A2 x.c.vs.length x.c2] 25) = w1 := ⟨_, rfl⟩
  obtain ⟨g, hg⟩ : ∃ g, w.heap.size = g := ⟨_, rfl⟩
  rw [hw1] at HB1 HC HF HNn HP KC ⊢
  rw [hg] at HC ⊢
  clear hw1 hg
  have c0 := HC.out.cell 0
  have c1 := HC.out.cell 1
  have c2 := HC.out.cell 2
  have c3 := HC.out.cell 3
  have c4 := HC.out.cell 4
  simp only [List.getElem?_toArray, List.getElem?_cons_zero, List.getElem?_cons_succ] at c0 c1 c2 c3 c4
  have f0 := HF.out
  have n0 := HNn.out
  have p0 := HP.out
  go_wp2_with fail
  refine KC.out.mono ?_
  rintro e w2 ⟨rfl, hb2⟩
  have HB2 := Lib.hid (HB1.out.trans (hb2.mono HB1.out.size))
  clear hb2
  go_wp2_with fail
  go_ret
  exact ⟨by rfl, HB2.out⟩
set_option maxHeartbeats 2000000 in
set_option maxRecDepth 100000 in
theorem mallcert {w : World} {A : Option Addr} {c : Nat} {l : List Ct} (hh : HasCerts w w.heap.size A l) (hl : l.length ≤ 1000000) (gf gn gp : Nat) (pr : Ct → Bool)
    (HC : ∀ x : Cs, x.c ∈ l → ∀ w', Below w.heap.size w w' → x.In w' w'.heap.size → Calls Tryz.prog 109 #[.agg #[.int .i64 x.c.vw, .int .i64 x.c.ins, .int .i64 x.c.sq, .slice x.A1 x.c.bt.length x.c1, .slice x.A2 x.c.vs.length x.c2], .pointer (some ⟨gf, 0, none⟩), .pointer (some ⟨gn, 0, none⟩), .pointer (some ⟨gp, 0, none⟩)] w' fun e w2 => e = .returned (.bool (pr x.c)) ∧ Below w'.heap.size w' w2) :
    Calls Tryz.prog 108 #[.slice A l.length c, .func (.func 109) #[] #[.pointer (some ⟨gf, 0, none⟩), .pointer (some ⟨gn, 0, none⟩), .pointer (some ⟨gp, 0, none⟩)]] w fun e w' => e = .returned (.bool (l.all pr)) ∧ Below w.heap.size w w' := by
  have H1 := Lib.hid hh
  have HCl := Lib.hid HC
  clear hh HC
  go_enter Tryz.func108, Tryz.ntmps108
  go_wp2_with fail
  go_loopw [9] (fun x wr => ∃ k : Nat, x = .int .i64 k ∧ k ≤ l.length ∧ Hid (Below w.heap.size w wr) ∧ Hid ((l.take k).all pr = true)) (fun x _ => l.length - (intOf x).toNat)
  case atStart => exact ⟨0, rfl, Nat.zero_le _, Below.refl _ _, rfl⟩
  case round =>
    obtain ⟨k, rfl, hk, HW, HT⟩ := hrel
    by_cases hlt : k < l.length
    · obtain ⟨ad, x, rfl, _, hxc, hxi, c0, c1, c2, c3, c4⟩ := HasCerts.at (H1.out.reads (Reads.below HW.out (Nat.le_refl _))) hlt
      have HX := Lib.hid (show l[k]? = some x.c by rw [List.getElem?_eq_getElem hlt, hxc])
      have HM := Lib.hid (show x.c ∈ l from hxc ▸ List.getElem_mem hlt)
      have HBx := Lib.hid (HW.out.alloc HW.out.size (.cells #[.int .i64 x.c.vw, .int .i64 x.c.ins, .int .i64 x.c.sq, .slice x.A1 x.c.bt.length x.c1, .slice x.A2 x.c.vs.length x.c2] 25))
      have hba : Below wr.heap.size wr (wr.alloc (.cells #[.int .i64 x.c.vw, .int .i64 x.c.ins, .int .i64 x.c.sq, .slice x.A1 x.c.bt.length x.c1, .slice x.A2 x.c.vs.length x.c2] 25)) := (Below.refl _ wr).alloc (Nat.le_refl _) _
      have HC := Lib.hid (HCl.out x HM.out _ HBx.out ((hxi.reads (Reads.more HW.out.size)).reads (Reads.below hba (Nat.le_refl _)) |>.reads (Reads.more hba.size)))
      clear hxc hxi HM hba
      cases hv : pr x.c
      · have HE := Lib.hid (show l.all pr = false from all_far (p := pr) HX.out hv)
        rw [hv] at HC
        clear hv
        go_wp2_with (go_at_call 109; refine HC.out.mono ?_; rintro e w2 ⟨rfl, hb2⟩; have HB2 := Lib.hid (HBx.out.trans (hb2.mono HBx.out.size)); clear hb2)
        go_ret
        exact ⟨by rw [HE.out]; rfl, by assumption⟩
      · have HE := Lib.hid (show (l.take (k + 1)).all pr = true by rw [all_next HX.out, HT.out, hv]; rfl)
        rw [hv] at HC
        clear hv
        go_wp2_with (go_at_call 109; refine HC.out.mono ?_; rintro e w2 ⟨rfl, hb2⟩; have HB2 := Lib.hid (HBx.out.trans (hb2.mono HBx.out.size)); clear hb2)
        go_roundw
        case rel => exact ⟨k + 1, by go_num, by omega, by assumption, HE.out⟩
        case measure => simp [intOf]; omega
    · have HE := Lib.hid (show l.all pr = true by have := HT.out; rwa [List.take_of_length_le (by omega)] at this)
      go_wp2_with fail
      go_ret
      exact ⟨by rw [HE.out]; rfl, HW.out⟩
def viewX (vw : Int) (y : Ps) : Ms := ⟨viewM vw y.p, none, 0, y.A1, y.c1, y.A2, y.c2, none, 0⟩
theorem viewX_in {vw : Int} {y : Ps} {w : World} {B : Nat} (h : y.In w B) : (viewX vw y).In w B := ⟨Has.nil _ _ _, h.vs, h.cs, ⟨[], rfl, Has.nil _ _ _, by simp⟩⟩
theorem view_short {vw : Int} {q : Pt} (h : q.Short) : (viewM vw q).Short := ⟨by simp [viewM], h.vs, h.cs, h.each, by simp [viewM], by simp [viewM]⟩
theorem form_view {vw f n : Int} {q : Pt} (h : formS (viewM vw q) f n = true) : 1 ≤ vw ∧ vw ≤ 12 := by
  have hk : (viewM vw q).kd = 7 := rfl
  unfold formS at h
  rw [Bool.and_eq_true, if_neg (show ¬ (viewM vw q).kd = 1 by rw [hk]; decide), Bool.and_eq_true] at h
  have h := h.2.2
  rw [if_neg (show ¬ (viewM vw q).kd = 2 by rw [hk]; decide), if_neg (show ¬ (viewM vw q).kd = 3 by rw [hk]; decide), if_neg (show ¬ ((viewM vw q).kd = 4 ∨ (viewM vw q).kd = 5) by rw [hk]; decide), if_neg (show ¬ (viewM vw q).kd = 6 by rw [hk]; decide), if_pos hk, Bool.and_eq_true] at h
  have h := h.2
  unfold leavesS at h
  simp only [Bool.and_eq_true, decide_eq_true_eq] at h
  exact h.1.1.1.1
theorem mform_view (vw : Int) (y : Ps) {w : World} (h : y.In w w.heap.size) (hs : y.p.Short) (hfr : fit y.p.fr) (f n : Int) :
    Calls Tryz.prog 29 #[.agg #[.int .i64 7, .int .i64 y.p.fr, .int .i64 vw, .int .i64 0, .int .i64 0, .int .i64 0, .slice none 0 0, .slice y.A1 y.p.vs.length y.c1, .slice y.A2 y.p.cs.length y.c2, .slice none 0 0], .int .i64 f, .int .i64 n] w fun e w' => e = .returned (.bool (formS (viewM vw y.p) f n)) ∧ Below w.heap.size w w' :=
  mform_any (viewX vw y) (viewX_in h) (view_short hs) (wf_i64 hfr).2 f n
theorem msealed_view (vw sg : Int) (y : Ps) {w : World} (h : y.In w w.heap.size) (hsz : 6 * (viewM vw y.p).toks.length ≤ 70368744177664) (hfr : fit y.p.fr) {nb bm : Nat} {L : List Deed} (hN : Nt w nb bm L) :
    Calls Tryz.prog 67 #[.agg #[.int .i64 7, .int .i64 y.p.fr, .int .i64 vw, .int .i64 0, .int .i64 0, .int .i64 0, .slice none 0 0, .slice y.A1 y.p.vs.length y.c1, .slice y.A2 y.p.cs.length y.c2, .slice none 0 0], .int .i64 sg, .pointer (some ⟨nb, 0, none⟩)] w fun e w' => e = .returned (.bool (sealM L (viewM vw y.p) sg)) ∧ Below w.heap.size w w' :=
  msealed_any (viewX vw y) sg (viewX_in h) hsz hfr hN
set_option maxHeartbeats 8000000 in
set_option maxRecDepth 100000 in
theorem mviewed_any (vw : Int) (y : Ps) (f n : Int) {w : World} (hx : y.In w w.heap.size) (hs : y.p.Short) (hsz : 6 * (viewM vw y.p).toks.length ≤ 70368744177664) (hfr : fit y.p.fr) {nb bm : Nat} {L : List Deed} (hN : Nt w nb bm L) :
    Calls Tryz.prog 43 #[.int .i64 vw, .agg #[.int .i64 y.p.fr, .slice y.A1 y.p.vs.length y.c1, .slice y.A2 y.p.cs.length y.c2, .int .i64 y.p.sg], .int .i64 f, .int .i64 n, .pointer (some ⟨nb, 0, none⟩)] w fun e w' => e = .returned (.bool (viewedS vw f n L y.p)) ∧ Below w.heap.size w w' := by
  have hmf : ∀ (fn : Fn) (first cap : Array Value) (w : World), (Instr.makeFunc fn first cap).run Tryz.prog w = .ok (.func fn first cap) w := fun _ _ _ _ => rfl
  obtain ⟨wa, hwa⟩ : ∃ wa, w.alloc (.cells #[.int .i64 y.p.fr, .slice y.A1 y.p.vs.length y.c1, .slice y.A2 y.p.cs.length y.c2, .int .i64 y.p.sg] 73) = wa := ⟨_, rfl⟩
  obtain ⟨wb, hwb⟩ : ∃ wb, wa.alloc (.cells #[.int .i64 f] 3) = wb := ⟨_, rfl⟩
  obtain ⟨wc, hwc⟩ : ∃ wc, wb.alloc (.cells #[.int .i64 n] 3) = wc := ⟨_, rfl⟩
  obtain ⟨wd, hwd⟩ : ∃ wd, wc.alloc (.cells #[.pointer (some ⟨nb, 0, none⟩)] 27) = wd := ⟨_, rfl⟩
  obtain ⟨we, hwe⟩ : ∃ we, wd.alloc (.cells #[.int .i64 7, .int .i64 y.p.fr, .int .i64 vw, .int .i64 0, .int .i64 0, .int .i64 0, .slice none 0 0, .slice y.A1 y.p.vs.length y.c1, .slice y.A2 y.p.cs.length y.c2, .slice none 0 0] 38) = we := ⟨_, rfl⟩
  have hba : Below w.heap.size w wa := hwa ▸ (Below.refl _ w).alloc (Nat.le_refl _) _
  have hbb : Below wa.heap.size wa wb := hwb ▸ (Below.refl _ wa).alloc (Nat.le_refl _) _
  have hbc : Below wb.heap.size wb wc := hwc ▸ (Below.refl _ wb).alloc (Nat.le_refl _) _
  have hbd : Below wc.heap.size wc wd := hwd ▸ (Below.refl _ wc).alloc (Nat.le_refl _) _
  have hbe : Below wd.heap.size wd we := hwe ▸ (Below.refl _ wd).alloc (Nat.le_refl _) _
  have kae : Below wa.heap.size wa we := ((hbb.trans (hbc.mono hbb.size)).trans (hbd.mono (Nat.le_trans hbb.size hbc.size))).trans (hbe.mono (Nat.le_trans hbb.size (Nat.le_trans hbc.size hbd.size)))
  have kbe : Below wb.heap.size wb we := (hbc.trans (hbd.mono hbc.size)).trans (hbe.mono (Nat.le_trans hbc.size hbd.size))
  have kce : Below wc.heap.size wc we := hbd.trans (hbe.mono hbd.size)
  have qa : Blk wa w.heap.size 73 #[.int .i64 y.p.fr, .slice y.A1 y.p.vs.length y.c1, .slice y.A2 y.p.cs.length y.c2, .int .i64 y.p.sg] := hwa ▸ Blk.new _ _ _
  have qb : Blk wb wa.heap.size 3 #[.int .i64 f] := hwb ▸ Blk.new _ _ _
  have qc : Blk wc wb.heap.size 3 #[.int .i64 n] := hwc ▸ Blk.new _ _ _
  have qd : Blk wd wc.heap.size 27 #[.pointer (some ⟨nb, 0, none⟩)] := hwd ▸ Blk.new _ _ _
  have qe : Blk we wd.heap.size 38 #[.int .i64 7, .int .i64 y.p.fr, .int .i64 vw, .int .i64 0, .int .i64 0, .int .i64 0, .slice none 0 0, .slice y.A1 y.p.vs.length y.c1, .slice y.A2 y.p.cs.length y.c2, .slice none 0 0] := hwe ▸ Blk.new _ _ _
  have sa : wa.heap.size = w.heap.size + 1 := by rw [← hwa]; simp
  have sb : wb.heap.size = w.heap.size + 1 + 1 := by rw [← hwb, World.size_alloc, sa]
  have sc : wc.heap.size = w.heap.size + 1 + 1 + 1 := by rw [← hwc, World.size_alloc, sb]
  have sd : wd.heap.size = w.heap.size + 1 + 1 + 1 + 1 := by rw [← hwd, World.size_alloc, sc]
  have HB := Lib.hid (hba.trans (kae.mono hba.size))
  have HPt := Lib.hid (qa.below kae qa.lt)
  have HF := Lib.hid (qb.below kbe qb.lt)
  have HNn := Lib.hid (qc.below kce qc.lt)
  have HP := Lib.hid (qd.below hbe qd.lt)
  have HM := Lib.hid qe
  rw [sa] at HF
  rw [sb] at HNn
  rw [sc] at HP
  rw [sd] at HM
  have HI := Lib.hid ((hx.reads (Reads.below HB.out (Nat.le_refl _))).reads (Reads.more HB.out.size))
  have HN := Lib.hid (hN.below HB.out)
  have HSh := Lib.hid hs
  have HFR := Lib.hid hfr
  have hww : ((((w.alloc (.cells #[.int .i64 y.p.fr, .slice y.A1 y.p.vs.length y.c1, .slice y.A2 y.p.cs.length y.c2, .int .i64 y.p.sg] 73)).alloc (.cells #[.int .i64 f] 3)).alloc (.cells #[.int .i64 n] 3)).alloc (.cells #[.pointer (some ⟨nb, 0, none⟩)] 27)).alloc (.cells #[.int .i64 7, .int .i64 y.p.fr, .int .i64 vw, .int .i64 0, .int .i64 0, .int .i64 0, .slice none 0 0, .slice y.A1 y.p.vs.length y.c1, .slice y.A2 y.p.cs.length y.c2, .slice none 0 0] 38) = we := by rw [hwa, hwb, hwc, hwd, hwe]
  have HWw := Lib.hid hww
  clear hba hbb hbc hbd hbe kae kbe kce qa qb qc qd qe sa sb sc sd hx hs hfr hN hwa hwb hwc hwd hwe hww
  have HD := Lib.hid (show viewedS vw f n L y.p = (formS (viewM vw y.p) f n && (sealM L (viewM vw y.p) y.p.sg && (changedS (vw - 1) f L y.p.vs && y.p.cs.all (fun c => certifiedS 4 f n L c)))) from rfl)
  go_enter Tryz.func43, Tryz.ntmps43
  go_upto_region 2 with fail
  rw [HWw.out]
  obtain ⟨g, hg⟩ : ∃ g, w.heap.size = g := ⟨_, rfl⟩
  have HG := Lib.hid hg
  rw [hg] at HPt HF HNn HP HM ⊢
  clear hg
  have KF := Lib.hid (mform_view vw y HI.out HSh.out HFR.out f n)
  have p0 := HPt.out.cell 0
  have p1 := HPt.out.cell 1
  have p2 := HPt.out.cell 2
  have p3 := HPt.out.cell 3
  simp only [List.getElem?_toArray, List.getElem?_cons_zero, List.getElem?_cons_succ] at p0 p1 p2 p3
  have m0 := HM.out.cell 0
  have m1 := HM.out.cell 1
  have m2 := HM.out.cell 2
  have m3 := HM.out.cell 3
  have m4 := HM.out.cell 4
  have m5 := HM.out.cell 5
  have m6 := HM.out.cell 6
  have m7 := HM.out.cell 7
  have m8 := HM.out.cell 8
  have m9 := HM.out.cell 9
  simp only [List.getElem?_toArray, List.getElem?_cons_zero, List.getElem?_cons_succ] at m0 m1 m2 m3 m4 m5 m6 m7 m8 m9
  have f0 := HF.out.cell 0
  simp only [List.getElem?_toArray, List.getElem?_cons_zero] at f0
  have n0 := HNn.out.cell 0
  simp only [List.getElem?_toArray, List.getElem?_cons_zero] at n0
  have q0 := HP.out.cell 0
  simp only [List.getElem?_toArray, List.getElem?_cons_zero] at q0
  cases hf : formS (viewM vw y.p) f n
  case false =>
    rw [hf] at KF HD
    clear hf
    go_wp2_with fail
    refine KF.out.mono ?_
    rintro e w1 ⟨rfl, hb⟩
    have HB1 := Lib.hid (HB.out.trans (hb.mono HB.out.size))
    have HPt1 := Lib.hid (HPt.out.below hb HPt.out.lt)
    have HF1 := Lib.hid (HF.out.below hb HF.out.lt)
    have HNn1 := Lib.hid (HNn.out.below hb HNn.out.lt)
    have HP1 := Lib.hid (HP.out.below hb HP.out.lt)
    have HM1 := Lib.hid (HM.out.below hb HM.out.lt)
    have HI1 := Lib.hid ((HI.out.reads (Reads.below hb (Nat.le_refl _))).reads (Reads.more hb.size))
    have HN1 := Lib.hid (HN.out.below hb)
    clear hb
    go_wp2_with fail
    go_ret
    exact ⟨by rw [HD.out]; rfl, HB1.out⟩
  have hv := form_view hf
  rw [hf] at KF HD
  clear hf
  go_wp2_with fail
  refine KF.out.mono ?_
  rintro e w1 ⟨rfl, hb⟩
  clear p0 p1 p2 p3 m0 m1 m2 m3 m4 m5 m6 m7 m8 m9 f0 n0 q0
  have HB1 := Lib.hid (HB.out.trans (hb.mono HB.out.size))
  have HPt1 := Lib.hid (HPt.out.below hb HPt.out.lt)
  have HF1 := Lib.hid (HF.out.below hb HF.out.lt)
  have HNn1 := Lib.hid (HNn.out.below hb HNn.out.lt)
  have HP1 := Lib.hid (HP.out.below hb HP.out.lt)
  have HM1 := Lib.hid (HM.out.below hb HM.out.lt)
  have HI1 := Lib.hid ((HI.out.reads (Reads.below hb (Nat.le_refl _))).reads (Reads.more hb.size))
  have HN1 := Lib.hid (HN.out.below hb)
  clear hb
  clear HPt HF HNn HP HM HI HN KF
  have KS := Lib.hid (msealed_view vw y.p.sg y HI1.out hsz HFR.out HN1.out)
  have p0 := HPt1.out.cell 0
  have p1 := HPt1.out.cell 1
  have p2 := HPt1.out.cell 2
  have p3 := HPt1.out.cell 3
  simp only [List.getElem?_toArray, List.getElem?_cons_zero, List.getElem?_cons_succ] at p0 p1 p2 p3
  have m0 := HM1.out.cell 0
  have m1 := HM1.out.cell 1
  have m2 := HM1.out.cell 2
  have m3 := HM1.out.cell 3
  have m4 := HM1.out.cell 4
  have m5 := HM1.out.cell 5
  have m6 := HM1.out.cell 6
  have m7 := HM1.out.cell 7
  have m8 := HM1.out.cell 8
  have m9 := HM1.out.cell 9
  simp only [List.getElem?_toArray, List.getElem?_cons_zero, List.getElem?_cons_succ] at m0 m1 m2 m3 m4 m5 m6 m7 m8 m9
  have f0 := HF1.out.cell 0
  simp only [List.getElem?_toArray, List.getElem?_cons_zero] at f0
  have n0 := HNn1.out.cell 0
  simp only [List.getElem?_toArray, List.getElem?_cons_zero] at n0
  have q0 := HP1.out.cell 0
  simp only [List.getElem?_toArray, List.getElem?_cons_zero] at q0
  cases hse : sealM L (viewM vw y.p) y.p.sg
  case false =>
    rw [hse] at KS HD
    clear hse
    go_wp2_with fail
    refine KS.out.mono ?_
    rintro e w2 ⟨rfl, hb⟩
    have HB2 := Lib.hid (HB1.out.trans (hb.mono HB1.out.size))
    have HPt2 := Lib.hid (HPt1.out.below hb HPt1.out.lt)
    have HF2 := Lib.hid (HF1.out.below hb HF1.out.lt)
    have HNn2 := Lib.hid (HNn1.out.below hb HNn1.out.lt)
    have HP2 := Lib.hid (HP1.out.below hb HP1.out.lt)
    have HM2 := Lib.hid (HM1.out.below hb HM1.out.lt)
    have HI2 := Lib.hid ((HI1.out.reads (Reads.below hb (Nat.le_refl _))).reads (Reads.more hb.size))
    have HN2 := Lib.hid (HN1.out.below hb)
    clear hb
    go_wp2_with fail
    go_ret
    exact ⟨by rw [HD.out]; rfl, HB2.out⟩
  rw [hse] at KS HD
  clear hse
  go_wp2_with fail
  refine KS.out.mono ?_
  rintro e w2 ⟨rfl, hb⟩
  clear p0 p1 p2 p3 m0 m1 m2 m3 m4 m5 m6 m7 m8 m9 f0 n0 q0
  have HB2 := Lib.hid (HB1.out.trans (hb.mono HB1.out.size))
  have HPt2 := Lib.hid (HPt1.out.below hb HPt1.out.lt)
  have HF2 := Lib.hid (HF1.out.below hb HF1.out.lt)
  have HNn2 := Lib.hid (HNn1.out.below hb HNn1.out.lt)
  have HP2 := Lib.hid (HP1.out.below hb HP1.out.lt)
  have HM2 := Lib.hid (HM1.out.below hb HM1.out.lt)
  have HI2 := Lib.hid ((HI1.out.reads (Reads.below hb (Nat.le_refl _))).reads (Reads.more hb.size))
  have HN2 := Lib.hid (HN1.out.below hb)
  clear hb
  clear HPt1 HF1 HNn1 HP1 HM1 HI1 HN1 KS
  have KC := Lib.hid (mchanged_any (vw - 1) (c := y.c1) f HI2.out.vs HSh.out.vs HN2.out)
  have p0 := HPt2.out.cell 0
  have p1 := HPt2.out.cell 1
  have p2 := HPt2.out.cell 2
  have p3 := HPt2.out.cell 3
  simp only [List.getElem?_toArray, List.getElem?_cons_zero, List.getElem?_cons_succ] at p0 p1 p2 p3
  have m0 := HM2.out.cell 0
  have m1 := HM2.out.cell 1
  have m2 := HM2.out.cell 2
  have m3 := HM2.out.cell 3
  have m4 := HM2.out.cell 4
  have m5 := HM2.out.cell 5
  have m6 := HM2.out.cell 6
  have m7 := HM2.out.cell 7
  have m8 := HM2.out.cell 8
  have m9 := HM2.out.cell 9
  simp only [List.getElem?_toArray, List.getElem?_cons_zero, List.getElem?_cons_succ] at m0 m1 m2 m3 m4 m5 m6 m7 m8 m9
  have f0 := HF2.out.cell 0
  simp only [List.getElem?_toArray, List.getElem?_cons_zero] at f0
  have n0 := HNn2.out.cell 0
  simp only [List.getElem?_toArray, List.getElem?_cons_zero] at n0
  have q0 := HP2.out.cell 0
  simp only [List.getElem?_toArray, List.getElem?_cons_zero] at q0
  cases hc : changedS (vw - 1) f L y.p.vs
  case false =>
    rw [hc] at KC HD
    clear hc
    go_wp2_with fail
    refine KC.out.mono ?_
    rintro e w3 ⟨rfl, hb⟩
    have HB3 := Lib.hid (HB2.out.trans (hb.mono HB2.out.size))
    have HPt3 := Lib.hid (HPt2.out.below hb HPt2.out.lt)
    have HF3 := Lib.hid (HF2.out.below hb HF2.out.lt)
    have HNn3 := Lib.hid (HNn2.out.below hb HNn2.out.lt)
    have HP3 := Lib.hid (HP2.out.below hb HP2.out.lt)
    have HM3 := Lib.hid (HM2.out.below hb HM2.out.lt)
    have HI3 := Lib.hid ((HI2.out.reads (Reads.below hb (Nat.le_refl _))).reads (Reads.more hb.size))
    have HN3 := Lib.hid (HN2.out.below hb)
    clear hb
    go_wp2_with fail
    go_ret
    exact ⟨by rw [HD.out]; rfl, HB3.out⟩
  rw [hc] at KC HD
  clear hc
  go_wp2_with fail
  refine KC.out.mono ?_
  rintro e w3 ⟨rfl, hb⟩
  clear p0 p1 p2 p3 m0 m1 m2 m3 m4 m5 m6 m7 m8 m9 f0 n0 q0
  have HB3 := Lib.hid (HB2.out.trans (hb.mono HB2.out.size))
  have HPt3 := Lib.hid (HPt2.out.below hb HPt2.out.lt)
  have HF3 := Lib.hid (HF2.out.below hb HF2.out.lt)
  have HNn3 := Lib.hid (HNn2.out.below hb HNn2.out.lt)
  have HP3 := Lib.hid (HP2.out.below hb HP2.out.lt)
  have HM3 := Lib.hid (HM2.out.below hb HM2.out.lt)
  have HI3 := Lib.hid ((HI2.out.reads (Reads.below hb (Nat.le_refl _))).reads (Reads.more hb.size))
  have HN3 := Lib.hid (HN2.out.below hb)
  clear hb
  clear HPt2 HM2 HI2 HN2 HF2 HNn2 HP2 KC
  have KA := Lib.hid (mallcert (w := w3) (c := y.c2) HI3.out.cs HSh.out.cs (g + 1) (g + 1 + 1) (g + 1 + 1 + 1) (fun c => certifiedS 4 f n L c)
    (fun x hx w' hb' hxi => mviewed1 x f n ((hb'.cell HF3.out.lt).trans (HF3.out.cell 0)) ((hb'.cell HNn3.out.lt).trans (HNn3.out.cell 0)) ((hb'.cell HP3.out.lt).trans (HP3.out.cell 0)) (Nat.lt_of_lt_of_le HF3.out.lt hb'.size) (Nat.lt_of_lt_of_le HNn3.out.lt hb'.size) (Nat.lt_of_lt_of_le HP3.out.lt hb'.size) hxi ⟨(HSh.out.each _ hx).1, (HSh.out.each _ hx).2⟩ (HN3.out.below hb')))
  have p0 := HPt3.out.cell 0
  have p1 := HPt3.out.cell 1
  have p2 := HPt3.out.cell 2
  have p3 := HPt3.out.cell 3
  simp only [List.getElem?_toArray, List.getElem?_cons_zero, List.getElem?_cons_succ] at p0 p1 p2 p3
  have m0 := HM3.out.cell 0
  have m1 := HM3.out.cell 1
  have m2 := HM3.out.cell 2
  have m3 := HM3.out.cell 3
  have m4 := HM3.out.cell 4
  have m5 := HM3.out.cell 5
  have m6 := HM3.out.cell 6
  have m7 := HM3.out.cell 7
  have m8 := HM3.out.cell 8
  have m9 := HM3.out.cell 9
  simp only [List.getElem?_toArray, List.getElem?_cons_zero, List.getElem?_cons_succ] at m0 m1 m2 m3 m4 m5 m6 m7 m8 m9
  have f0 := HF3.out.cell 0
  simp only [List.getElem?_toArray, List.getElem?_cons_zero] at f0
  have n0 := HNn3.out.cell 0
  simp only [List.getElem?_toArray, List.getElem?_cons_zero] at n0
  have q0 := HP3.out.cell 0
  simp only [List.getElem?_toArray, List.getElem?_cons_zero] at q0
  go_wp2_with fail
  refine KA.out.mono ?_
  rintro e w4 ⟨rfl, hb⟩
  have HB4 := Lib.hid (HB3.out.trans (hb.mono HB3.out.size))
  have HPt4 := Lib.hid (HPt3.out.below hb HPt3.out.lt)
  have HF4 := Lib.hid (HF3.out.below hb HF3.out.lt)
  have HNn4 := Lib.hid (HNn3.out.below hb HNn3.out.lt)
  have HP4 := Lib.hid (HP3.out.below hb HP3.out.lt)
  have HM4 := Lib.hid (HM3.out.below hb HM3.out.lt)
  have HI4 := Lib.hid ((HI3.out.reads (Reads.below hb (Nat.le_refl _))).reads (Reads.more hb.size))
  have HN4 := Lib.hid (HN3.out.below hb)
  clear hb
  go_wp2_with fail
  go_ret
  exact ⟨by rw [HD.out]; simp, HB4.out⟩
end Go.Proofs.YtbegjadohamkkaaGreat
