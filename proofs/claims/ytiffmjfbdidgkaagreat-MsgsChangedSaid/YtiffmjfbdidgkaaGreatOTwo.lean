/- Two notaries that have sealed the same: the law's own begin, Seal, Msg. -/
import Derived.Test.YtiffmjfbdidgkaaGreatOS0
import Derived.Test.YtiffmjfbdidgkaaGreatOS6
import Derived.Test.YtiffmjfbdidgkaaGreatOS5
import Derived.Deep.RegionHeld3
namespace Go.Proofs.YtiffmjfbdidgkaaGreat
open Go.RowKit

/-- Two notaries of B's own, that have both sealed L. -/
structure Tw (B nb bm rb : Nat) (L : List Deed) (R : Nat → Prop) (w : World) : Prop where
  nt : Nt w nb bm L
  rf : Rf R w rb L
  nd : L.Nodup
  zone : ∀ k, R k → B ≤ k ∧ k < w.heap.size
  nbR : ¬ R nb
  bmR : ¬ R bm
  nbw : B ≤ nb
  bmw : B ≤ bm
section
variable {B nb bm rb : Nat} {L : List Deed} {R : Nat → Prop} {w w2 : World}
theorem Tw.turn {Z : Nat → Prop} (h : Tw B nb bm rb L R w) (ht : Turn Z w w2) (hz : ∀ k, k < w.heap.size → Z k → ¬ R k ∧ k ≠ nb ∧ k ≠ bm) : Tw B nb bm rb L R w2 :=
  ⟨h.nt.kept ht (fun hk => (hz nb h.nt.lt.1 hk).2.1 rfl) (fun hk => (hz bm h.nt.lt.2 hk).2.2 rfl), h.rf.kept ht (fun k hk hr hzk => (hz k hk hzk).1 hr), h.nd,
    fun k hk => ⟨(h.zone k hk).1, Nat.lt_of_lt_of_le (h.zone k hk).2 ht.size⟩, h.nbR, h.bmR, h.nbw, h.bmw⟩
theorem Tw.below (h : Tw B nb bm rb L R w) (hb : Below w.heap.size w w2) : Tw B nb bm rb L R w2 := h.turn (Turn.of_below (Z := fun _ => False) hb) (fun _ _ hk => hk.elim)
theorem Tw.drewN (h : Tw B nb bm rb L R w) (n : Nat) : Tw B nb bm rb L R (w.drewN n) := h.turn ((Turn.refl (fun _ => False) w).drewN n) (fun _ _ hk => hk.elim)
/-- What lies ahead of both notaries stays. -/
theorem Tw.low (h : Tw B nb bm rb L R w) (ht : Turn (fun k => R k ∨ k = bm) w w2) (hB : B ≤ w.heap.size) : Below B w w2 :=
  ht.below hB (fun k hk he => by
    rcases he with he | rfl
    · have := (h.zone k he).1; omega
    · have := h.bmw; omega)
end
set_option maxHeartbeats 1000000 in
theorem begin_any (w : World) : Calls Tryz.prog 5 #[] w fun e w' => ∃ nb bm rb R, e = .returned (.tuple #[.agg #[.pointer (some ⟨nb, 0, none⟩), .pointer (some ⟨rb, 0, none⟩)], .bool true]) ∧ Tw w.heap.size nb bm rb [] R w' ∧ Below w.heap.size w w' := by
  go_enter Tryz.func5, Tryz.ntmps5
  go_wp2_with fail
  refine (new_any _).mono ?_
  rintro e w1 ⟨nb, bm, rfl, hN, hnb, hbm, hb⟩
  have HB := Lib.hid hb
  have HN := Lib.hid hN
  have HL := Lib.hid hN.lt
  clear hb hN
  go_wp2_with fail
  have hs0 : (w.alloc (.cells #[.pointer none, .pointer none] 26)).heap.size = w.heap.size + 1 := by simp
  have hs1 := HB.out.size
  rw [hs0] at hnb hbm hs1
  have hba : Below w.heap.size w (w.alloc (.cells #[.pointer none, .pointer none] 26)) := (Below.refl _ w).alloc (Nat.le_refl _) _
  have hb3 : Below w1.heap.size w1 ((w1.alloc (.cells #[.slice none 0 0, .slice none 0 0] 46)).alloc (.cells #[.pointer (some ⟨nb, 0, none⟩), .pointer (some ⟨w1.heap.size, 0, none⟩)] 26)) := ((Below.refl _ w1).alloc (Nat.le_refl _) _).alloc (by simp) _
  have HB3 := Lib.hid ((hba.trans (HB.out.mono (by rw [hs0]; omega))).trans (hb3.mono (by omega)))
  have HRs := Lib.hid (((Blk.new w 26 #[.pointer none, .pointer none]).below HB.out (by rw [hs0]; omega)).below hb3 (by omega))
  have HTb := Lib.hid (show Blk ((w1.alloc (.cells #[.slice none 0 0, .slice none 0 0] 46)).alloc (.cells #[.pointer (some ⟨nb, 0, none⟩), .pointer (some ⟨w1.heap.size, 0, none⟩)] 26)) (w1.heap.size + 1) 26 #[.pointer (some ⟨nb, 0, none⟩), .pointer (some ⟨w1.heap.size, 0, none⟩)] from by
    have h := Blk.new (w1.alloc (.cells #[.slice none 0 0, .slice none 0 0] 46)) 26 #[.pointer (some ⟨nb, 0, none⟩), .pointer (some ⟨w1.heap.size, 0, none⟩)]
    rwa [show (w1.alloc (.cells #[.slice none 0 0, .slice none 0 0] 46)).heap.size = w1.heap.size + 1 by simp] at h)
  have HTw := Lib.hid (show Tw w.heap.size nb bm w1.heap.size [] (fun k => k = w1.heap.size) ((w1.alloc (.cells #[.slice none 0 0, .slice none 0 0] 46)).alloc (.cells #[.pointer (some ⟨nb, 0, none⟩), .pointer (some ⟨w1.heap.size, 0, none⟩)] 26)) from
    ⟨HN.out.below hb3, ⟨rfl, _, _, (Blk.new _ _ _).alloc _, World.ownsRow_nil _ _ _ _, World.ownsRow_nil _ _ _ _, (fun g hg => by cases hg), (fun g hg => by cases hg)⟩, List.nodup_nil,
      fun k hk => ⟨by omega, by rw [hk]; simp; omega⟩, (fun e => by have := HL.out.1; omega), (fun e => by have := HL.out.2; omega), by omega, by omega⟩)
  obtain ⟨w3, hw3⟩ : ∃ w3, ((w1.alloc (.cells #[.slice none 0 0, .slice none 0 0] 46)).alloc (.cells #[.pointer (some ⟨nb, 0, none⟩), .pointer (some ⟨w1.heap.size, 0, none⟩)] 26)) = w3 := ⟨_, rfl⟩
  rw [hw3] at HB3 HRs HTb HTw ⊢
  clear hw3 hb3 hba hs0
  obtain ⟨g1, hg1⟩ : ∃ g, w1.heap.size = g := ⟨_, rfl⟩
  obtain ⟨g, hg⟩ : ∃ g, w.heap.size = g := ⟨_, rfl⟩
  have HG := Lib.hid hg
  rw [hg1] at HTb HTw hs1 ⊢
  rw [hg] at HRs HTw hs1 ⊢
  clear hg hg1 HN HL HB
  have hne : g ≠ g1 + 1 := by omega
  have hne2 : g1 + 1 ≠ g := by omega
  have d0 := HTb.out.cell 0
  have d1 := HTb.out.cell 1
  have r0 := HRs.out.cell 0
  have r1 := HRs.out.cell 1
  have f0 := HRs.out.frozen 0
  have f1 := HRs.out.frozen 1
  simp only [List.getElem?_toArray, List.getElem?_cons_zero, List.getElem?_cons_succ] at d0 d1 r0 r1
  go_region_held3 (fun w' => w'.cell? ⟨g1 + 1, 0, none⟩ = some (.pointer (some ⟨nb, 0, none⟩)) ∧ w'.cell? ⟨g1 + 1, 1, none⟩ = some (.pointer (some ⟨g1, 0, none⟩))) (go_keep) (fail)
  clear d0 d1 r0 r1 f0 f1 HTb
  rename_i hHeld
  clear hHeld
  have HT4 := Lib.hid ((((Turn.refl (fun k => k = g) w3).set_ ⟨g, 0, none⟩ (.pointer (some ⟨nb, 0, none⟩)) rfl).set_ ⟨g, 1, none⟩ (.pointer (some ⟨g1, 0, none⟩)) rfl).drewN 1)
  have HR4 := Lib.hid (show Blk (((w3.setCell ⟨g, 0, none⟩ (.pointer (some ⟨nb, 0, none⟩))).setCell ⟨g, 1, none⟩ (.pointer (some ⟨g1, 0, none⟩))).drewN 1) g 26 #[.pointer (some ⟨nb, 0, none⟩), .pointer (some ⟨g1, 0, none⟩)] from ((HRs.out.set_ 0 (.pointer (some ⟨nb, 0, none⟩))).set_ 1 (.pointer (some ⟨g1, 0, none⟩))).drewN 1)
  obtain ⟨w4, hw4⟩ : ∃ w4, ((w3.setCell ⟨g, 0, none⟩ (.pointer (some ⟨nb, 0, none⟩))).setCell ⟨g, 1, none⟩ (.pointer (some ⟨g1, 0, none⟩))).drew = w4 := ⟨_, rfl⟩
  rw [show ((w3.setCell ⟨g, 0, none⟩ (.pointer (some ⟨nb, 0, none⟩))).setCell ⟨g, 1, none⟩ (.pointer (some ⟨g1, 0, none⟩))).drewN 1 = w4 from hw4] at HT4 HR4
  rw [hw4]
  clear hw4 HRs
  have c0 := HR4.out.cell 0
  have c1 := HR4.out.cell 1
  simp only [List.getElem?_toArray, List.getElem?_cons_zero, List.getElem?_cons_succ] at c0 c1
  go_wp2_with fail
  refine bodyPost_ret (v := .tuple #[.agg #[.pointer (some ⟨nb, 0, none⟩), .pointer (some ⟨g1, 0, none⟩)], .bool true]) ?_ ?_ ?_
  case refine_2 => rfl
  case refine_3 =>
    have hb4 : Below w.heap.size w w4 := HB3.out.trans (HT4.out.below HB3.out.size (fun k hk he => by rw [HG.out] at hk; omega))
    have ht4 : Tw w.heap.size nb bm g1 [] (fun k => k = g1) w4 := by
      rw [HG.out]
      exact HTw.out.turn HT4.out (fun k hk he => by rw [HG.out] at hnb hbm; exact ⟨by omega, by omega, by omega⟩)
    exact ⟨nb, bm, g1, fun k => k = g1, rfl, ht4, hb4⟩
  simp [results, Tryz.results5, go_sem, c0, c1]
set_option maxHeartbeats 1000000 in
/-- Both give a seal: of bytes that lie in neither. -/
theorem tseal_any {B nb bm rb : Nat} {L : List Deed} {R : Nat → Prop} {w : World} (h : Tw B nb bm rb L R w) (hlen : L.length ≤ 1000000) {p : Int} (hp : fit p) {A : Option Addr} {n c C : Nat} {zs : List Int} (hh : Has w C A (u8s zs)) (hn : zs.length = n) (hm : n ≤ maxLen) (hA : ∀ ad, A = some ad → u8s zs ≠ [] → ¬ R ad.block) :
    Calls Tryz.prog 23 #[.agg #[.pointer (some ⟨nb, 0, none⟩), .pointer (some ⟨rb, 0, none⟩)], .int .i64 p, .slice A n c] w fun e w' => e = .returned (.int .i64 (sealS L (p, strOfNums zs))) ∧ ∃ R', Tw B nb bm rb (sealed L (p, strOfNums zs)) R' w' ∧ Turn (fun k => R k ∨ k = bm) w w' ∧ (∀ k, R' k → R k ∨ w.heap.size ≤ k) := by
  have hb1 : Below w.heap.size w (w.alloc (.cells #[.pointer (some ⟨nb, 0, none⟩), .pointer (some ⟨rb, 0, none⟩)] 26)) := (Below.refl _ w).alloc (Nat.le_refl _) _
  have HD := Lib.hid (h.below hb1)
  have HH := Lib.hid (has_apart hh (Turn.of_below (Z := fun _ => False) hb1) (fun _ _ _ h => h))
  have HA := Lib.hid hA
  have HN := Lib.hid hn
  have HM := Lib.hid hm
  have HP := Lib.hid hp
  have HB1 := Lib.hid hb1
  have HTb := Lib.hid (Blk.new w 26 #[.pointer (some ⟨nb, 0, none⟩), .pointer (some ⟨rb, 0, none⟩)])
  have HZ := Lib.hid (show ¬ R w.heap.size from fun e => by have := (h.zone _ e).2; omega)
  clear h hh hA hn hm hp hb1
  go_enter Tryz.func23, Tryz.ntmps23
  go_wp2_with fail
  obtain ⟨w0, hw0⟩ : ∃ w0, w.alloc (.cells #[.pointer (some ⟨nb, 0, none⟩), .pointer (some ⟨rb, 0, none⟩)] 26) = w0 := ⟨_, rfl⟩
  obtain ⟨g, hg⟩ : ∃ g, w.heap.size = g := ⟨_, rfl⟩
  have HG := Lib.hid hg
  rw [hw0] at HD HH HB1 HTb ⊢
  rw [hg] at HTb HZ ⊢
  clear hw0 hg
  refine (rseal_at HD.out.rf hlen HH.out HN.out HA.out).mono ?_
  rintro e w1 ⟨rfl, hR, ht⟩
  have HR := Lib.hid hR
  have HT := Lib.hid ht
  have HN1 := Lib.hid (HD.out.nt.kept ht HD.out.nbR HD.out.bmR)
  have HH1 := Lib.hid (has_apart HH.out ht HA.out)
  have HT1 := Lib.hid (ht.blk HTb.out HZ.out)
  have c0 := HT1.out.cell 0
  simp only [List.getElem?_toArray, List.getElem?_cons_zero] at c0
  clear hR ht
  go_wp2_with fail
  refine (seal_any HN1.out hlen HP.out HH1.out HN.out HM.out).mono ?_
  rintro e w2 ⟨rfl, hN2, ht2⟩
  have HN2 := Lib.hid hN2
  have HT2 := Lib.hid ht2
  clear hN2 ht2 c0
  go_wp2_with fail
  go_ret
  have hlt := HD.out.nt.lt
  have hnw := HD.out.nbw
  have hs2 := HT2.out.size
  have hs0 := HB1.out.size
  have hbm : ¬ ((R bm ∨ w0.heap.size ≤ bm) ∧ bm < w1.heap.size) := fun e => e.1.elim HD.out.bmR (fun e => by omega)
  refine ⟨rfl, fun k => (R k ∨ w0.heap.size ≤ k) ∧ k < w1.heap.size, ⟨HN2.out, (HR.out.mono (fun k hk hr => ⟨hr, hk⟩)).kept HT2.out (fun k _ hr e => hbm (e ▸ hr)), sealed_nodup HD.out.nd _, fun k hk => ⟨?_, by omega⟩,
    fun e => e.1.elim HD.out.nbR (fun e => by omega), hbm, hnw, HD.out.bmw⟩, (Turn.of_below HB1.out).trans ((HT.out.mono (fun _ _ h => Or.inl h)).trans (HT2.out.mono (fun _ _ h => Or.inr h))), fun k hk => hk.1.imp id (fun e => by omega)⟩
  rcases hk.1 with e | e
  · exact (HD.out.zone k e).1
  · omega
/-- What is sealed behind a message's seal. -/
def msgL (L : List Deed) (m : Mg) : List Deed := match bodyM m with | some bs => sealed L (deedM m bs) | none => L
def msgK (L : List Deed) (m : Mg) : Int := match bodyM m with | some bs => sealS L (deedM m bs) | none => 0
set_option maxHeartbeats 2000000 in
set_option maxRecDepth 100000 in
theorem tmsg_any {B nb bm rb : Nat} {L : List Deed} {R : Nat → Prop} {w : World} (h : Tw B nb bm rb L R w) (hlen : L.length ≤ 1000000) (x : Ms) (hx : x.In w w.heap.size) (hsz : 6 * x.m.toks.length ≤ 70368744177664) (hfr : fit x.m.fr) :
    Calls Tryz.prog 13 #[.agg #[.pointer (some ⟨nb, 0, none⟩), .pointer (some ⟨rb, 0, none⟩)], .agg #[.int .i64 x.m.kd, .int .i64 x.m.fr, .int .i64 x.m.vw, .int .i64 x.m.ins, .int .i64 x.m.sq, .int .i64 x.m.rs, .slice x.A1 x.m.bt.length x.c1, .slice x.A2 x.m.vs.length x.c2, .slice x.A3 x.m.cs.length x.c3, .slice x.A4 x.m.ps.length x.c4]] w fun e w' => e = .returned (.int .i64 (msgK L x.m)) ∧ ∃ R', Tw B nb bm rb (msgL L x.m) R' w' ∧ Turn (fun k => R k ∨ k = bm) w w' ∧ (∀ k, R' k → R k ∨ w.heap.size ≤ k) := by
  have hb0 : Below w.heap.size w (w.alloc (.cells #[.pointer (some ⟨nb, 0, none⟩), .pointer (some ⟨rb, 0, none⟩)] 26)) := (Below.refl _ w).alloc (Nat.le_refl _) _
  have hb1 : Below w.heap.size w ((w.alloc (.cells #[.pointer (some ⟨nb, 0, none⟩), .pointer (some ⟨rb, 0, none⟩)] 26)).alloc (.cells #[.int .i64 x.m.kd, .int .i64 x.m.fr, .int .i64 x.m.vw, .int .i64 x.m.ins, .int .i64 x.m.sq, .int .i64 x.m.rs, .slice x.A1 x.m.bt.length x.c1, .slice x.A2 x.m.vs.length x.c2, .slice x.A3 x.m.cs.length x.c3, .slice x.A4 x.m.ps.length x.c4] 35)) := hb0.alloc hb0.size _
  have HB1 := Lib.hid hb1
  have HTb := Lib.hid ((Blk.new w 26 #[.pointer (some ⟨nb, 0, none⟩), .pointer (some ⟨rb, 0, none⟩)]).alloc (.cells #[.int .i64 x.m.kd, .int .i64 x.m.fr, .int .i64 x.m.vw, .int .i64 x.m.ins, .int .i64 x.m.sq, .int .i64 x.m.rs, .slice x.A1 x.m.bt.length x.c1, .slice x.A2 x.m.vs.length x.c2, .slice x.A3 x.m.cs.length x.c3, .slice x.A4 x.m.ps.length x.c4] 35))
  have HBl := Lib.hid (Blk.new1 w (.cells #[.pointer (some ⟨nb, 0, none⟩), .pointer (some ⟨rb, 0, none⟩)] 26) 35 #[.int .i64 x.m.kd, .int .i64 x.m.fr, .int .i64 x.m.vw, .int .i64 x.m.ins, .int .i64 x.m.sq, .int .i64 x.m.rs, .slice x.A1 x.m.bt.length x.c1, .slice x.A2 x.m.vs.length x.c2, .slice x.A3 x.m.cs.length x.c3, .slice x.A4 x.m.ps.length x.c4])
  have HI := Lib.hid ((hx.reads (Reads.below hb1 (Nat.le_refl _))).reads (Reads.more hb1.size))
  have HD := Lib.hid (h.below hb1)
  have HZ := Lib.hid h.zone
  have HFR := Lib.hid hfr
  clear h hx hb0 hb1 hfr
  go_enter Tryz.func13, Tryz.ntmps13
  go_wp2_with fail
  obtain ⟨w1, hw1⟩ : ∃ w1, ((w.alloc (.cells #[.pointer (some ⟨nb, 0, none⟩), .pointer (some ⟨rb, 0, none⟩)] 26)).alloc (.cells #[.int .i64 x.m.kd, .int .i64 x.m.fr, .int .i64 x.m.vw, .int .i64 x.m.ins, .int .i64 x.m.sq, .int .i64 x.m.rs, .slice x.A1 x.m.bt.length x.c1, .slice x.A2 x.m.vs.length x.c2, .slice x.A3 x.m.cs.length x.c3, .slice x.A4 x.m.ps.length x.c4] 35)) = w1 := ⟨_, rfl⟩
  rw [hw1] at HB1 HBl HTb HI HD ⊢
  clear hw1
  refine (rbody_msg x w1 HI.out hsz).mono ?_
  rintro e w2 ⟨hb2, ⟨bs, A, c, hbs, rfl, ho⟩ | ⟨hbs, rfl⟩⟩
  · have HB2 := Lib.hid (HB1.out.trans (hb2.mono HB1.out.size))
    have HD2 := Lib.hid (HD.out.below hb2)
    have HBS := Lib.hid hbs
    have HO := Lib.hid ho
    have hcs := own_caps ho
    have HS1 := Lib.hid HB1.out.size
    obtain ⟨n, hn⟩ : ∃ n, bs.length = n := ⟨_, rfl⟩
    rw [hn] at HO hcs ⊢
    have HNn := Lib.hid hn
    have d1 := (HBl.out.below hb2 HBl.out.lt).cell 1
    have t0 := (HTb.out.below hb2 HTb.out.lt).cell 0
    have t1 := (HTb.out.below hb2 HTb.out.lt).cell 1
    simp only [List.getElem?_toArray, List.getElem?_cons_zero, List.getElem?_cons_succ] at d1 t0 t1
    clear hb2 hbs ho hn
    go_wp2_with fail
    refine (tseal_any HD2.out hlen HFR.out (Has.own HO.out) HNn.out (by omega) (fun ad e hne hr => by
      have h1 := (HO.out.lt ad.block (by rw [e]; rfl)).1
      have h2 := (HZ.out _ hr).2
      have h3 := HS1.out
      omega)).mono ?_
    rintro e w3 ⟨rfl, R', hT, ht, hR⟩
    have HT := Lib.hid hT
    have HTu := Lib.hid ((Turn.of_below HB2.out).trans ht)
    have HS2 := Lib.hid HB2.out.size
    clear hT ht d1 t0 t1
    go_wp2_with fail
    go_ret
    refine ⟨?_, R', ?_, HTu.out, fun k hk => (hR k hk).imp id (fun h => Nat.le_trans HS2.out h)⟩
    · unfold msgK; rw [HBS.out]; rfl
    · unfold msgL; rw [HBS.out]; exact HT.out
  · have HB2 := Lib.hid (HB1.out.trans (hb2.mono HB1.out.size))
    have HD2 := Lib.hid (HD.out.below hb2)
    have HBS := Lib.hid hbs
    clear hb2 hbs
    go_wp2_with fail
    go_ret
    refine ⟨?_, R, ?_, Turn.of_below HB2.out, fun k hk => Or.inl hk⟩
    · unfold msgK; rw [HBS.out]; rfl
    · unfold msgL; rw [HBS.out]; exact HD2.out
end Go.Proofs.YtiffmjfbdidgkaaGreat
