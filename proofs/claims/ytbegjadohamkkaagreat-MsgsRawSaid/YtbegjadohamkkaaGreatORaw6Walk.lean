/- The walk of MsgsRaw: it returns true for any certificate, any part, any numbers. -/
import Derived.Test.YtbegjadohamkkaaGreatOTwo
import Derived.Test.YtbegjadohamkkaaGreatOS6
import Derived.Test.YtbegjadohamkkaaGreatOS7
import Derived.Test.YtbegjadohamkkaaGreatOMsgViewed
import Derived.Test.YtbegjadohamkkaaGreatORefViewed
namespace Go.Proofs.YtbegjadohamkkaaGreat
open Go.RowKit Go.Sort

theorem one_cert6 {w : World} {B g : Nat} {x : Cs} (hb : Blk w g 25 #[.int .i64 x.c.vw, .int .i64 x.c.ins, .int .i64 x.c.sq, .slice x.A1 x.c.bt.length x.c1, .slice x.A2 x.c.vs.length x.c2]) (hg : g < B) (hx : x.In w B) : HasCerts w B (some ⟨g, 0, none⟩) [x.c] :=
  ⟨[x], rfl, by have := hb.has hg; simpa [Cs.cells] using this, fun y hy => by simp at hy; subst hy; exact hx⟩
theorem one_part6 {w : World} {B g : Nat} {y : Ps} (hb : Blk w g 73 #[.int .i64 y.p.fr, .slice y.A1 y.p.vs.length y.c1, .slice y.A2 y.p.cs.length y.c2, .int .i64 y.p.sg]) (hg : g < B) (hx : y.In w B) : HasParts w B (some ⟨g, 0, none⟩) [y.p] :=
  ⟨[y], rfl, by have := hb.has hg; simpa [Ps.cells] using this, fun z hz => by simp at hz; subst hz; exact hx⟩
/-- What stands while the law runs. -/
structure RwSt (w0 : World) (B : Nat) (x : Cs) (y : Ps) (g0 g1 gt nb bm rb : Nat) (L : List Deed) (R : Nat → Prop) (wr : World) : Prop where
  low : Below w0.heap.size w0 wr
  crt : Blk wr g0 25 #[.int .i64 x.c.vw, .int .i64 x.c.ins, .int .i64 x.c.sq, .slice x.A1 x.c.bt.length x.c1, .slice x.A2 x.c.vs.length x.c2]
  prt : Blk wr g1 73 #[.int .i64 y.p.fr, .slice y.A1 y.p.vs.length y.c1, .slice y.A2 y.p.cs.length y.c2, .int .i64 y.p.sg]
  two : Blk wr gt 30 #[.pointer (some ⟨nb, 0, none⟩), .pointer (some ⟨rb, 0, none⟩)]
  tw : Tw B nb bm rb L R wr
  base : w0.heap.size ≤ B
  g0R : ¬ R g0 ∧ g0 ≠ bm
  g1R : ¬ R g1 ∧ g1 ≠ bm
  gtR : ¬ R gt ∧ gt ≠ bm
section
variable {w0 wr w2 : World} {B : Nat} {x : Cs} {y : Ps} {g0 g1 gt nb bm rb : Nat} {L L' : List Deed} {R R' : Nat → Prop}
theorem RwSt.below (h : RwSt w0 B x y g0 g1 gt nb bm rb L R wr) (hb : Below wr.heap.size wr w2) : RwSt w0 B x y g0 g1 gt nb bm rb L R w2 :=
  ⟨h.low.trans (hb.mono h.low.size), h.crt.below hb h.crt.lt, h.prt.below hb h.prt.lt, h.two.below hb h.two.lt, h.tw.below hb, h.base, h.g0R, h.g1R, h.gtR⟩
theorem RwSt.seal (h : RwSt w0 B x y g0 g1 gt nb bm rb L R wr) (ht : Turn (fun k => R k ∨ k = bm) wr w2) (hT : Tw B nb bm rb L' R' w2) (hR : ∀ k, R' k → R k ∨ wr.heap.size ≤ k) : RwSt w0 B x y g0 g1 gt nb bm rb L' R' w2 := by
  have h1 := h.crt.lt
  have h2 := h.two.lt
  have h3 := h.prt.lt
  have h4 := h.base
  refine ⟨h.low.trans (ht.below h.low.size (fun k hk e => ?_)), ht.blk h.crt (fun e => e.elim h.g0R.1 h.g0R.2), ht.blk h.prt (fun e => e.elim h.g1R.1 h.g1R.2), ht.blk h.two (fun e => e.elim h.gtR.1 h.gtR.2), hT, h.base,
    ⟨fun e => (hR _ e).elim h.g0R.1 (fun e => by omega), h.g0R.2⟩, ⟨fun e => (hR _ e).elim h.g1R.1 (fun e => by omega), h.g1R.2⟩, ⟨fun e => (hR _ e).elim h.gtR.1 (fun e => by omega), h.gtR.2⟩⟩
  rcases e with e | rfl
  · have := (h.tw.zone k e).1; omega
  · have := h.tw.bmw; omega
end
/-- What holds at a round's head. -/
structure RwR (w0 : World) (B : Nat) (x : Cs) (y : Ps) (g0 g1 gt nb bm rb i : Nat) (wr : World) : Prop where
  ex : ∃ L R, RwSt w0 B x y g0 g1 gt nb bm rb L R wr ∧ L.length ≤ i
theorem msgL_len6 (L : List Deed) (m : Mg) : (msgL L m).length ≤ L.length + 1 := by
  unfold msgL
  split
  · unfold sealed; split
    · omega
    · rw [List.length_append]; exact Nat.le_refl _
  · omega
theorem tmsg_ballot {B nb bm rb : Nat} {L : List Deed} {R : Nat → Prop} {w : World} (h : Tw B nb bm rb L R w) (hlen : L.length ≤ 1000000) (kd nd : Int) (x : Cs) (hx : x.In w w.heap.size) (hs : x.c.bt.length ≤ 1000000) (hfr : fit nd) :
    Calls Tryz.prog 38 #[.agg #[.pointer (some ⟨nb, 0, none⟩), .pointer (some ⟨rb, 0, none⟩)], .agg #[.int .i64 kd, .int .i64 nd, .int .i64 x.c.vw, .int .i64 x.c.ins, .int .i64 x.c.sq, .int .i64 0, .slice x.A1 x.c.bt.length x.c1, .slice none 0 0, .slice none 0 0, .slice none 0 0]] w fun e w' => e = .returned (.int .i64 (msgK L (ballotM kd nd x.c))) ∧ ∃ R', Tw B nb bm rb (msgL L (ballotM kd nd x.c)) R' w' ∧ Turn (fun k => R k ∨ k = bm) w w' ∧ (∀ k, R' k → R k ∨ w.heap.size ≤ k) :=
  tmsg_any h hlen ⟨ballotM kd nd x.c, x.A1, x.c1, none, 0, none, 0, none, 0⟩ ⟨hx.bt, Has.nil _ _ _, ⟨[], rfl, Has.nil _ _ _, by simp⟩, ⟨[], rfl, Has.nil _ _ _, by simp⟩⟩ (by rw [ballot_toks]; omega) hfr
def partX (y : Ps) (g : Nat) : Ms := ⟨⟨0, 0, 0, 0, 0, 0, [], [], [], [y.p]⟩, none, 0, none, 0, none, 0, some ⟨g, 0, none⟩, 1⟩
theorem partX_in {y : Ps} {g B : Nat} {w : World} (h : HasParts w B (some ⟨g, 0, none⟩) [y.p]) : (partX y g).In w B := ⟨Has.nil _ _ _, Has.nil _ _ _, ⟨[], rfl, Has.nil _ _ _, by simp⟩, h⟩
theorem part_light {y : Ps} {g : Nat} (h : heavyM (partX y g).m = false) : y.p.vs.length ≤ 30 ∧ heavyC y.p.cs = false := (light_msg h).2.2.2.2 y.p (by simp [partX])
theorem light_pt {q : Pt} (h : q.vs.length ≤ 30 ∧ heavyC q.cs = false) : q.Short ∧ ∀ vw, 6 * (viewM vw q).toks.length ≤ 70368744177664 := by
  have h2 := light_of h.2
  have h3 := certs_toks h.2
  refine ⟨⟨by omega, by omega, fun c hc => ?_⟩, fun vw => ?_⟩
  · have := h2.2 c hc; omega
  · have e1 : (listToks Rq.toks ([] : List Rq)).length = 1 := rfl
    have e2 : (listToks Pt.toks ([] : List Pt)).length = 1 := rfl
    simp only [Mg.toks, Mg.head, List.length_append, List.length_cons, List.length_nil, votes_toks, viewM, e1, e2]
    omega
theorem Ps.Came.fine {w : World} {y : Ps} (h : y.Came w) : y.p.Fine := by
  refine ⟨h.sg, fun v hv => (h.vs.fits v hv).sg, fun c hc => ?_⟩
  obtain ⟨L, h1, _, h3⟩ := h.cs.lies
  rw [← h1] at hc
  obtain ⟨z, hz, rfl⟩ := List.mem_map.1 hc
  exact ⟨fun v hv => ((h3 z hz).vs.fits v hv).sg, fun r hr => ((h3 z hz).bt.fits r hr).sg⟩
set_option maxHeartbeats 16000000 in
set_option maxRecDepth 100000 in
theorem msgsRaw_walk (x : Cs) (y : Ps) (a2 a3 a4 a5 : Int) (w : World) (hx : x.Came w) (hy : y.Came w) (_ : (Lit.int .i64 a2).wf = true) (_ : (Lit.int .i64 a3).wf = true) (_ : (Lit.int .i64 a4).wf = true) (_ : (Lit.int .i64 a5).wf = true) :
    Calls Tryz.prog 8 #[.agg #[.int .i64 x.c.vw, .int .i64 x.c.ins, .int .i64 x.c.sq, .slice x.A1 x.c.bt.length x.c1, .slice x.A2 x.c.vs.length x.c2], .agg #[.int .i64 y.p.fr, .slice y.A1 y.p.vs.length y.c1, .slice y.A2 y.p.cs.length y.c2, .int .i64 y.p.sg], .int .i64 a2, .int .i64 a3, .int .i64 a4, .int .i64 a5] w fun e w' => e = .returned (.bool true) ∧ Below w.heap.size w w' := by
  obtain ⟨wa, hwa⟩ : ∃ wa, w.alloc (.cells #[.int .i64 x.c.vw, .int .i64 x.c.ins, .int .i64 x.c.sq, .slice x.A1 x.c.bt.length x.c1, .slice x.A2 x.c.vs.length x.c2] 25) = wa := ⟨_, rfl⟩
  obtain ⟨wb, hwb⟩ : ∃ wb, wa.alloc (.cells #[.int .i64 y.p.fr, .slice y.A1 y.p.vs.length y.c1, .slice y.A2 y.p.cs.length y.c2, .int .i64 y.p.sg] 73) = wb := ⟨_, rfl⟩
  obtain ⟨wc, hwc⟩ : ∃ wc, wb.alloc (.cells #[.int .i64 x.c.vw, .int .i64 x.c.ins, .int .i64 x.c.sq, .slice x.A1 x.c.bt.length x.c1, .slice x.A2 x.c.vs.length x.c2] 25) = wc := ⟨_, rfl⟩
  obtain ⟨wd, hwd⟩ : ∃ wd, wc.alloc (.cells #[.int .i64 y.p.fr, .slice y.A1 y.p.vs.length y.c1, .slice y.A2 y.p.cs.length y.c2, .int .i64 y.p.sg] 73) = wd := ⟨_, rfl⟩
  have hba : Below w.heap.size w wa := hwa ▸ (Below.refl _ w).alloc (Nat.le_refl _) _
  have hbb : Below wa.heap.size wa wb := hwb ▸ (Below.refl _ wa).alloc (Nat.le_refl _) _
  have hbc : Below wb.heap.size wb wc := hwc ▸ (Below.refl _ wb).alloc (Nat.le_refl _) _
  have hbd : Below wc.heap.size wc wd := hwd ▸ (Below.refl _ wc).alloc (Nat.le_refl _) _
  have qa : Blk wa w.heap.size 25 #[.int .i64 x.c.vw, .int .i64 x.c.ins, .int .i64 x.c.sq, .slice x.A1 x.c.bt.length x.c1, .slice x.A2 x.c.vs.length x.c2] := hwa ▸ Blk.new _ _ _
  have qb : Blk wb wa.heap.size 73 #[.int .i64 y.p.fr, .slice y.A1 y.p.vs.length y.c1, .slice y.A2 y.p.cs.length y.c2, .int .i64 y.p.sg] := hwb ▸ Blk.new _ _ _
  have qc : Blk wc wb.heap.size 25 #[.int .i64 x.c.vw, .int .i64 x.c.ins, .int .i64 x.c.sq, .slice x.A1 x.c.bt.length x.c1, .slice x.A2 x.c.vs.length x.c2] := hwc ▸ Blk.new _ _ _
  have qd : Blk wd wc.heap.size 73 #[.int .i64 y.p.fr, .slice y.A1 y.p.vs.length y.c1, .slice y.A2 y.p.cs.length y.c2, .int .i64 y.p.sg] := hwd ▸ Blk.new _ _ _
  have kac : Below wa.heap.size wa wc := hbb.trans (hbc.mono hbb.size)
  have kc : Below w.heap.size w wc := hba.trans (kac.mono hba.size)
  have HBc := Lib.hid kc
  have HBd := Lib.hid (kc.trans (hbd.mono kc.size))
  have HCc := Lib.hid (qa.below kac qa.lt)
  have HPc := Lib.hid (qb.below hbc qb.lt)
  have HCd := Lib.hid ((qa.below kac qa.lt).below hbd (Nat.lt_of_lt_of_le qa.lt kac.size))
  have HPd := Lib.hid ((qb.below hbc qb.lt).below hbd (Nat.lt_of_lt_of_le qb.lt hbc.size))
  have KH := Lib.hid (heavy_certs (some ⟨wb.heap.size, 0, none⟩) 1 [x.c] wc.heap.size wc (one_cert6 qc qc.lt ((hx.in_.reads (Reads.below kc (Nat.le_refl _))).reads (Reads.more kc.size))))
  have KM := Lib.hid (show Calls Tryz.prog 30 #[.agg #[.int .i64 0, .int .i64 0, .int .i64 0, .int .i64 0, .int .i64 0, .int .i64 0, .slice none 0 0, .slice none 0 0, .slice none 0 0, .slice (some ⟨wc.heap.size, 0, none⟩) 1 1]] wd fun e w' => e = .returned (.bool (heavyM (partX y wc.heap.size).m)) ∧ Below wd.heap.size wd w' from heavy_msg (partX y wc.heap.size) wd (partX_in (one_part6 qd qd.lt ((hy.in_.reads (Reads.below HBd.out (Nat.le_refl _))).reads (Reads.more HBd.out.size)))))
  have sa : wa.heap.size = w.heap.size + 1 := by rw [← hwa]; simp
  have sb : wb.heap.size = w.heap.size + 1 + 1 := by rw [← hwb, World.size_alloc, sa]
  have sc : wc.heap.size = w.heap.size + 1 + 1 + 1 := by rw [← hwc, World.size_alloc, sb]
  have HLm := Lib.hid (fun (h : heavyM (partX y wc.heap.size).m = false) => part_light h)
  obtain ⟨hm, hhm⟩ : ∃ hm, heavyM (partX y wc.heap.size).m = hm := ⟨_, rfl⟩
  rw [hhm] at KM HLm
  rw [sb] at KH
  rw [sa] at HPc HPd
  have HWc := Lib.hid (show ((w.alloc (.cells #[.int .i64 x.c.vw, .int .i64 x.c.ins, .int .i64 x.c.sq, .slice x.A1 x.c.bt.length x.c1, .slice x.A2 x.c.vs.length x.c2] 25)).alloc (.cells #[.int .i64 y.p.fr, .slice y.A1 y.p.vs.length y.c1, .slice y.A2 y.p.cs.length y.c2, .int .i64 y.p.sg] 73)).alloc (.cells #[.int .i64 x.c.vw, .int .i64 x.c.ins, .int .i64 x.c.sq, .slice x.A1 x.c.bt.length x.c1, .slice x.A2 x.c.vs.length x.c2] 25) = wc by rw [hwa, hwb, hwc])
  have HWd := Lib.hid hwd
  have HX := Lib.hid hx
  have HY := Lib.hid hy
  clear hba hbb hbc hbd qa qb qc qd kac kc sa sb sc hwa hwb hwc hwd hhm hx hy
  cases hc : heavyC [x.c]
  case true =>
    rw [hc] at KH
    clear hc
    go_enter Tryz.func8, Tryz.ntmps8
    go_wp2_with fail
    rw [HWc.out]
    refine KH.out.mono ?_
    rintro e w2 ⟨rfl, rfl⟩
    go_wp2_with fail
    refine (wakes6_any _).mono ?_
    rintro e wz ⟨rfl, hbz⟩
    have HBz := Lib.hid (HBc.out.trans (hbz.mono HBc.out.size))
    clear hbz
    go_wp2_with fail
    go_ret
    exact ⟨by rfl, HBz.out⟩
  rw [hc] at KH
  have HLc := Lib.hid ((light_of hc).2 x.c (by simp))
  clear hc
  cases hm
  case true =>
    go_enter Tryz.func8, Tryz.ntmps8
    go_wp2_with fail
    rw [HWc.out]
    refine KH.out.mono ?_
    rintro e w2 ⟨rfl, rfl⟩
    have p0 := HPc.out.cell 0
    have p1 := HPc.out.cell 1
    have p2 := HPc.out.cell 2
    have p3 := HPc.out.cell 3
    simp only [List.getElem?_toArray, List.getElem?_cons_zero, List.getElem?_cons_succ] at p0 p1 p2 p3
    go_wp2_with fail
    rw [HWd.out]
    refine KM.out.mono ?_
    rintro e w2 ⟨rfl, hb2⟩
    have HB2 := Lib.hid (HBd.out.trans (hb2.mono HBd.out.size))
    clear hb2 p0 p1 p2 p3
    go_wp2_with fail
    refine (wakes6_any _).mono ?_
    rintro e wz ⟨rfl, hbz⟩
    have HBz := Lib.hid (HB2.out.trans (hbz.mono HB2.out.size))
    clear hbz
    go_wp2_with fail
    go_ret
    exact ⟨by rfl, HBz.out⟩
  have hlp := HLm.out rfl
  have HPs := Lib.hid (light_pt hlp).1
  have HPz := Lib.hid (light_pt hlp).2
  have HCs := Lib.hid (show x.Short from ⟨by have := HLc.out.1; omega, by have := HLc.out.2; omega⟩)
  clear hlp
  go_enter Tryz.func8, Tryz.ntmps8
  go_wp2_with fail
  rw [HWc.out]
  refine KH.out.mono ?_
  rintro e w2 ⟨rfl, rfl⟩
  have p0 := HPc.out.cell 0
  have p1 := HPc.out.cell 1
  have p2 := HPc.out.cell 2
  have p3 := HPc.out.cell 3
  simp only [List.getElem?_toArray, List.getElem?_cons_zero, List.getElem?_cons_succ] at p0 p1 p2 p3
  go_wp2_with fail
  rw [HWd.out]
  refine KM.out.mono ?_
  rintro e w2 ⟨rfl, hb2⟩
  have HB2 := Lib.hid (HBd.out.trans (hb2.mono HBd.out.size))
  have HC2 := Lib.hid (HCd.out.below hb2 HCd.out.lt)
  have HP2 := Lib.hid (HPd.out.below hb2 HPd.out.lt)
  obtain ⟨g0, hg0⟩ : ∃ g, w.heap.size = g := ⟨_, rfl⟩
  have HG0 := Lib.hid hg0
  rw [hg0] at HC2 HP2 ⊢
  clear hb2 p0 p1 p2 p3 HLm KM KH HCc HPc HCd HPd HBc HBd HWc HWd hg0
  go_wp2_with fail
  refine (begin_any _).mono ?_
  rintro e w3 ⟨nb, bm, rb, R, rfl, hT, hb3⟩
  have HB3 := Lib.hid (HB2.out.trans (hb3.mono HB2.out.size))
  have HC3 := Lib.hid (HC2.out.below hb3 HC2.out.lt)
  have HP3 := Lib.hid (HP2.out.below hb3 HP2.out.lt)
  have HT3 := Lib.hid hT
  have HL2 := Lib.hid (And.intro HC2.out.lt HP2.out.lt)
  have HZ2 := Lib.hid HB2.out.size
  clear hT hb3 HB2 HC2 HP2
  go_upto_region 6 with fail
  have HS0 := Lib.hid (show RwR w w2.heap.size x y g0 (g0 + 1) w3.heap.size nb bm rb 0 (w3.alloc (.cells #[.pointer (some ⟨nb, 0, none⟩), .pointer (some ⟨rb, 0, none⟩)] 30)) from ⟨[], R,
    ⟨HB3.out.alloc HB3.out.size _, HC3.out.alloc _, HP3.out.alloc _, Blk.new _ _ _, HT3.out.below ((Below.refl _ _).alloc (Nat.le_refl _) _), HZ2.out,
      ⟨fun e => by have := (HT3.out.zone _ e).1; have := HL2.out.1; omega, fun e => by have := HT3.out.bmw; have := HL2.out.1; omega⟩,
      ⟨fun e => by have := (HT3.out.zone _ e).1; have := HL2.out.2; omega, fun e => by have := HT3.out.bmw; have := HL2.out.2; omega⟩,
      ⟨fun e => by have := (HT3.out.zone _ e).2; omega, fun e => by have := HT3.out.nt.lt.2; omega⟩⟩, Nat.le_refl _⟩)
  obtain ⟨w4, hw4⟩ : ∃ w1', w3.alloc (.cells #[.pointer (some ⟨nb, 0, none⟩), .pointer (some ⟨rb, 0, none⟩)] 30) = w1' := ⟨_, rfl⟩
  obtain ⟨gt, hgt⟩ : ∃ g, w3.heap.size = g := ⟨_, rfl⟩
  obtain ⟨B, hB⟩ : ∃ B, w2.heap.size = B := ⟨_, rfl⟩
  rw [hw4, hgt, hB] at HS0
  rw [hw4, hgt]
  clear hw4 hgt hB HB3 HC3 HP3 HT3 HL2 HZ2
  go_wp2_with fail
  go_loopw [15] (fun v wr => ∃ i : Nat, v = .int .i64 i ∧ i ≤ x.c.vs.length ∧ Hid (RwR w B x y g0 (g0 + 1) gt nb bm rb i wr)) (fun v _ => x.c.vs.length - (intOf v).toNat)
  case atStart => exact ⟨0, rfl, Nat.zero_le _, HS0⟩
  case round =>
    obtain ⟨i, rfl, hil, HR⟩ := hrel
    obtain ⟨Ld, Rr, hSt, hLd⟩ := HR.out.ex
    have HS := Lib.hid hSt
    have hvl := HLc.out.2
    have hLd2 : Ld.length ≤ 1000000 := by omega
    have HLd := Lib.hid hLd
    clear hSt HR hLd
    have c0 := HS.out.crt.cell 0
    have c1 := HS.out.crt.cell 1
    have c2 := HS.out.crt.cell 2
    have c3 := HS.out.crt.cell 3
    have c4 := HS.out.crt.cell 4
    simp only [List.getElem?_toArray, List.getElem?_cons_zero, List.getElem?_cons_succ] at c0 c1 c2 c3 c4
    by_cases hlt : i < x.c.vs.length
    case pos =>
      have hcl : (0 : Int) ≤ (i : Int) ∧ (i : Int) < (x.c.vs.length : Int) := by omega
      go_upto_region 9 with fail
      obtain ⟨ad, hA, hadb, v0, _⟩ := vote_at (HX.out.vs.has.below HS.out.low (Nat.le_refl _)) hlt
      obtain ⟨v, hv⟩ : ∃ v, x.c.vs[i] = v := ⟨_, rfl⟩
      have HVf := Lib.hid (HX.out.vs.fits v (hv ▸ List.getElem_mem hlt))
      rw [hv] at v0
      rw [hA] at c4
      have HA := Lib.hid hA
      have HAb := Lib.hid (Nat.lt_of_lt_of_le hadb HS.out.low.size)
      have hIn := (HX.out.in_.reads (Reads.below HS.out.low (Nat.le_refl _))).reads (Reads.more HS.out.low.size)
      have HIn := Lib.hid hIn
      have KB := Lib.hid (rballot_any a5 v.nd x wr.drew)
      rw [hA] at KB
      have HVc := Lib.hid (fun (w' : World) (hb : Below w.heap.size w w') => show w'.cell? (ad.add (i * 2)) = some (.int .i64 v.nd) from by
        obtain ⟨ad', hA', _, h, _⟩ := vote_at (HX.out.vs.has.below hb (Nat.le_refl _)) hlt
        rw [hv] at h
        rw [HA.out] at hA'
        injection hA' with e
        rw [e]; exact h)
      clear hv hA hadb hIn
      have t0 := HS.out.two.cell 0
      have t1 := HS.out.two.cell 1
      simp only [List.getElem?_toArray, List.getElem?_cons_zero, List.getElem?_cons_succ] at t0 t1
      have HBd := Lib.hid (below_drewN (Below.refl wr.heap.size wr) 1)
      go_region_held3 (fun w' => w'.cell? ⟨gt, 0, none⟩ = some (.pointer (some ⟨nb, 0, none⟩)) ∧ w'.cell? ⟨gt, 1, none⟩ = some (.pointer (some ⟨rb, 0, none⟩)) ∧ w'.cell? ⟨g0, 0, none⟩ = some (.int .i64 x.c.vw) ∧ w'.cell? ⟨g0, 1, none⟩ = some (.int .i64 x.c.ins) ∧ w'.cell? ⟨g0, 2, none⟩ = some (.int .i64 x.c.sq) ∧ w'.cell? ⟨g0, 3, none⟩ = some (.slice x.A1 x.c.bt.length x.c1) ∧ w'.cell? ⟨g0, 4, none⟩ = some (.slice (some ad) x.c.vs.length x.c2) ∧ w'.cell? (ad.add (i * 2)) = some (.int .i64 v.nd))
        (first | exact ⟨r0, r1, r2, r3, r4, r5, r6, r7⟩ | exact ⟨s0, s1, s2, s3, s4, s5, s6, s7⟩ | go_keep)
        (first
          | (go_at_call 39; (with_reducible refine KB.out.mono ?_); rintro e w5 ⟨rfl, hb5⟩; have HB5 := Lib.hid (show Below wr.heap.size wr w5 from ⟨hb5.os, hb5.tape, hb5.output, hb5.size, hb5.block⟩); have HS5 := Lib.hid (HS.out.below HB5.out); have r0 : w5.cell? ⟨gt, 0, none⟩ = some (.pointer (some ⟨nb, 0, none⟩)) := HS5.out.two.cell 0; have r1 : w5.cell? ⟨gt, 1, none⟩ = some (.pointer (some ⟨rb, 0, none⟩)) := HS5.out.two.cell 1; have r2 : w5.cell? ⟨g0, 0, none⟩ = some (.int .i64 x.c.vw) := HS5.out.crt.cell 0; have r3 : w5.cell? ⟨g0, 1, none⟩ = some (.int .i64 x.c.ins) := HS5.out.crt.cell 1; have r4 : w5.cell? ⟨g0, 2, none⟩ = some (.int .i64 x.c.sq) := HS5.out.crt.cell 2; have r5 : w5.cell? ⟨g0, 3, none⟩ = some (.slice x.A1 x.c.bt.length x.c1) := HS5.out.crt.cell 3; have r6 := HS5.out.crt.cell 4; rw [HA.out] at r6; replace r6 : w5.cell? ⟨g0, 4, none⟩ = some (.slice (some ad) x.c.vs.length x.c2) := r6; have r7 := HVc.out _ HS5.out.low; clear hb5)
          | (go_at_call 38; (with_reducible refine (tmsg_ballot HS5.out.tw hLd2 a5 v.nd x (HIn.out.reads (Reads.below HB5.out (Nat.le_refl _)) |>.reads (Reads.more HB5.out.size)) HCs.out.bt HVf.out.nd).mono ?_); rintro e w6 ⟨rfl, R6, hT6, ht6, hR6⟩; have HS6 := Lib.hid (HS5.out.seal ht6 hT6 hR6); have s0 : w6.cell? ⟨gt, 0, none⟩ = some (.pointer (some ⟨nb, 0, none⟩)) := HS6.out.two.cell 0; have s1 : w6.cell? ⟨gt, 1, none⟩ = some (.pointer (some ⟨rb, 0, none⟩)) := HS6.out.two.cell 1; have s2 : w6.cell? ⟨g0, 0, none⟩ = some (.int .i64 x.c.vw) := HS6.out.crt.cell 0; have s3 : w6.cell? ⟨g0, 1, none⟩ = some (.int .i64 x.c.ins) := HS6.out.crt.cell 1; have s4 : w6.cell? ⟨g0, 2, none⟩ = some (.int .i64 x.c.sq) := HS6.out.crt.cell 2; have s5 : w6.cell? ⟨g0, 3, none⟩ = some (.slice x.A1 x.c.bt.length x.c1) := HS6.out.crt.cell 3; have s6 := HS6.out.crt.cell 4; rw [HA.out] at s6; replace s6 : w6.cell? ⟨g0, 4, none⟩ = some (.slice (some ad) x.c.vs.length x.c2) := s6; have s7 := HVc.out _ HS6.out.low; clear hT6 ht6 hR6))
      have HL6 := Lib.hid (show (msgL Ld (ballotM a5 v.nd x.c)).length ≤ i + 1 from Nat.le_trans (msgL_len6 _ _) (by have := HLd.out; omega))
      clear r0 r1 r2 r3 r4 r5 r6 r7 s0 s1 s2 s3 s4 s5 s6 s7 c0 c1 c2 c3 c4 v0 t0 t1
      go_wp2_with fail
      go_roundw
      case rel => exact ⟨i + 1, by go_num, by omega, ⟨_, R6, HS6.out, HL6.out⟩⟩
      case measure => simp [intOf]; omega
    case neg =>
      obtain rfl : i = x.c.vs.length := by omega
      clear hlt
      go_upto_region 10 with fail
      clear c0 c1 c2 c3 c4
      have HNd := Lib.hid HS.out.tw.nd
      have HIx := Lib.hid ((HX.out.in_.reads (Reads.below HS.out.low (Nat.le_refl _))).reads (Reads.more HS.out.low.size))
      have HIy := Lib.hid ((HY.out.in_.reads (Reads.below HS.out.low (Nat.le_refl _))).reads (Reads.more HS.out.low.size))
      have HFy := Lib.hid HY.out.fine
      have HFv := Lib.hid (fun v hv => (HX.out.vs.fits v hv).sg)
      have HFr := Lib.hid (fun r hr => (HX.out.bt.fits r hr).sg)
      have ix := fun d os => (HIx.out.reads (Reads.below (below_regrown wr d os) (Nat.le_refl _))).reads (Reads.more (below_regrown wr d os).size)
      have iy := fun d os => (HIy.out.reads (Reads.below (below_regrown wr d os) (Nat.le_refl _))).reads (Reads.more (below_regrown wr d os).size)
      have tn := fun d os => HS.out.tw.nt.below (below_regrown wr d os)
      have tr := fun d os => HS.out.tw.rf.below (below_regrown wr d os)
      obtain ⟨b1, hb1⟩ : ∃ b, votedS a5 a3 Ld x.c = b := ⟨_, rfl⟩
      obtain ⟨b2, hb2⟩ : ∃ b, certifiedS a5 a3 a4 Ld x.c = b := ⟨_, rfl⟩
      obtain ⟨b3, hb3⟩ : ∃ b, changedS a2 a3 Ld y.p.vs = b := ⟨_, rfl⟩
      obtain ⟨b4, hb4⟩ : ∃ b, viewedS a2 a3 a4 Ld y.p = b := ⟨_, rfl⟩
      have K1 := fun d os => Calls.regrown_of (hb1 ▸ mvoted_any a5 x a3 (ix d os) HCs.out (tn d os))
      have K2 := fun d os => Calls.regrown_of (hb1 ▸ rvoted_any a5 x a3 (ix d os) HCs.out HFv.out (tr d os) HNd.out)
      have K3 := fun d os => Calls.regrown_of (hb2 ▸ mcertified_any a5 x a3 a4 (ix d os) HCs.out (tn d os))
      have K4 := fun d os => Calls.regrown_of (hb2 ▸ rcertified_any a5 x a3 a4 (ix d os) HCs.out HFv.out HFr.out (tr d os) HNd.out)
      have K5 := fun d os => Calls.regrown_of (hb3 ▸ mchanged_any a2 (c := y.c1) a3 (iy d os).vs HPs.out.vs (tn d os))
      have K6 := fun d os => Calls.regrown_of (hb3 ▸ rchanged_any a2 (c := y.c1) a3 (iy d os).vs HPs.out.vs HFy.out.vs (tr d os) HNd.out)
      have K7 := fun d os => Calls.regrown_of (hb4 ▸ mviewed_any a2 y a3 a4 (iy d os) HPs.out (HPz.out a2) HY.out.fr (tn d os))
      have K8 := fun d os => Calls.regrown_of (hb4 ▸ rviewed_any a2 y a3 a4 (iy d os) HPs.out (HPz.out a2) HFy.out (tr d os) HNd.out)
      have K9 := fun d os => Calls.regrown_of (wakes6_any (grow (redrawn wr d) os))
      clear ix iy tn tr hb1 hb2 hb3 hb4
      obtain ⟨c0, c1, c2, c3, c4⟩ := blk_cells5r HS.out.crt
      have p0 := cell_regrown (HS.out.prt.cell 0)
      have p1 := cell_regrown (HS.out.prt.cell 1)
      have p2 := cell_regrown (HS.out.prt.cell 2)
      have p3 := cell_regrown (HS.out.prt.cell 3)
      have t0 := cell_regrown (HS.out.two.cell 0)
      have t1 := cell_regrown (HS.out.two.cell 1)
      refine wp_region_quiet_below (by kernel_rfl) (by kernel_rfl) ?_
      refine wq_out ?_
      iterate 5 (refine wq_do (by kernel_rfl) (fun K hK => ?_); go_simp; refine hK _ ?_; clear hK K)
      refine wq_do (by kernel_rfl) (fun K hK => ?_)
      go_simp
      apply Exists.intro
      refine ⟨fun a => ?_, hK _ ?_⟩
      · exact K1 a.d a.os
      clear hK K
      iterate 5 (refine wq_do (by kernel_rfl) (fun K hK => ?_); go_simp; refine hK _ ?_; clear hK K)
      refine wq_do (by kernel_rfl) (fun K hK => ?_)
      go_simp
      apply Exists.intro
      refine ⟨fun a => ?_, hK _ ?_⟩
      · exact K2 a.d a.os
      clear hK K
      iterate 8 (refine wq_do (by kernel_rfl) (fun K hK => ?_); go_simp; refine hK _ ?_; clear hK K)
      refine wq_do (by kernel_rfl) (fun K hK => ?_)
      go_simp
      apply Exists.intro
      refine ⟨fun a => ?_, hK _ ?_⟩
      · exact K3 a.d a.os
      clear hK K
      iterate 6 (refine wq_do (by kernel_rfl) (fun K hK => ?_); go_simp; refine hK _ ?_; clear hK K)
      refine wq_do (by kernel_rfl) (fun K hK => ?_)
      go_simp
      apply Exists.intro
      refine ⟨fun a => ?_, hK _ ?_⟩
      · exact K4 a.d a.os
      clear hK K
      iterate 9 (refine wq_do (by kernel_rfl) (fun K hK => ?_); go_simp; refine hK _ ?_; clear hK K)
      refine wq_do (by kernel_rfl) (fun K hK => ?_)
      go_simp
      apply Exists.intro
      refine ⟨fun a => ?_, hK _ ?_⟩
      · exact K5 a.d a.os
      clear hK K
      iterate 6 (refine wq_do (by kernel_rfl) (fun K hK => ?_); go_simp; refine hK _ ?_; clear hK K)
      refine wq_do (by kernel_rfl) (fun K hK => ?_)
      go_simp
      apply Exists.intro
      refine ⟨fun a => ?_, hK _ ?_⟩
      · exact K6 a.d a.os
      clear hK K
      iterate 9 (refine wq_do (by kernel_rfl) (fun K hK => ?_); go_simp; refine hK _ ?_; clear hK K)
      refine wq_do (by kernel_rfl) (fun K hK => ?_)
      go_simp
      apply Exists.intro
      refine ⟨fun a => ?_, hK _ ?_⟩
      · exact K7 a.d a.os
      clear hK K
      iterate 6 (refine wq_do (by kernel_rfl) (fun K hK => ?_); go_simp; refine hK _ ?_; clear hK K)
      refine wq_do (by kernel_rfl) (fun K hK => ?_)
      go_simp
      apply Exists.intro
      refine ⟨fun a => ?_, hK _ ?_⟩
      · exact K8 a.d a.os
      clear hK K
      iterate 3 (refine wq_do (by kernel_rfl) (fun K hK => ?_); go_simp; refine hK _ ?_; clear hK K)
      refine wq_do (by kernel_rfl) (fun K hK => ?_)
      go_simp
      apply Exists.intro
      refine ⟨fun a => ?_, hK _ ?_⟩
      · exact K9 a.d a.os
      clear hK K
      iterate 2 (refine wq_do (by kernel_rfl) (fun K hK => ?_); go_simp; refine hK _ ?_; clear hK K)
      refine wq_nil ?_
      intro _ hw'
      obtain ⟨⟨dq, oq⟩, hw''⟩ := hw'
      subst hw''
      have HBq := Lib.hid (HS.out.low.trans ((below_regrown wr dq oq).mono HS.out.low.size))
      clear K1 K2 K3 K4 K5 K6 K7 K8 K9 c0 c1 c2 c3 c4 p0 p1 p2 p3 t0 t1
      go_wp2_with fail
      go_ret
      exact ⟨by simp, HBq.out⟩
end Go.Proofs.YtbegjadohamkkaaGreat
