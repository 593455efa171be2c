/- The contract of msgs.Seal. -/
import Derived.Test.YtbegjadohamkkaaGreatOMsgBody
import Derived.Test.YtbegjadohamkkaaGreatOS5
import Derived.Test.YtbegjadohamkkaaGreatOS1
import Derived.Test.YtbegjadohamkkaaGreatOS0
import Derived.Test.YtbegjadohamkkaaGreatOMsgFill
import Derived.Test.YtbegjadohamkkaaGreatORefParts6
import Derived.Test.YtbegjadohamkkaaGreatOMsgKeep
import Derived.Deep.RegionHeld3
namespace Go.Proofs.YtbegjadohamkkaaGreat
open Go.RowKit

/-- What a message's seal is given for. -/
def deedM (m : Mg) (bs : List Int) : Deed := (m.fr, strOfNums bs)
/-- What Seal does and answers. -/
def SealPost (m : Mg) (l : List Deed) (nb bm : Nat) (w : World) (e : Ending) (w' : World) : Prop :=
  (bodyM m = none ∧ e = .returned (.tuple #[.slice none 0 0, .bool false]) ∧ Below w.heap.size w w') ∨
  (∃ bs, bodyM m = some bs ∧ Nt w' nb bm (sealed l (deedM m bs)) ∧ Turn (fun k => k = bm) w w' ∧
    ((∃ es A c, envS (sealS l (deedM m bs)) bs = some es ∧ e = .returned (.tuple #[.slice A es.length c, .bool true]) ∧ w'.ownsRow w.heap.size 5 1 (.slice A es.length c) es.length (u8s es)) ∨
      (envS (sealS l (deedM m bs)) bs = none ∧ e = .returned (.tuple #[.slice none 0 0, .bool false]))))
set_option maxHeartbeats 4000000 in
set_option maxRecDepth 100000 in
theorem mseal_any (x : Ms) {w : World} (h : x.In w w.heap.size) (hsz : 6 * x.m.toks.length ≤ 70368744177664) (hfr : fit x.m.fr) {nb bm : Nat} {l : List Deed} (hN : Nt w nb bm l) (hlen : l.length ≤ 1000000) :
    Calls Tryz.prog 16 #[.agg #[.int .i64 x.m.kd, .int .i64 x.m.fr, .int .i64 x.m.vw, .int .i64 x.m.ins, .int .i64 x.m.sq, .int .i64 x.m.rs, .slice x.A1 x.m.bt.length x.c1, .slice x.A2 x.m.vs.length x.c2, .slice x.A3 x.m.cs.length x.c3, .slice x.A4 x.m.ps.length x.c4], .pointer (some ⟨nb, 0, none⟩)] w (SealPost x.m l nb bm w) := by
  have hb1 : Below w.heap.size w (w.alloc (.cells #[.int .i64 x.m.kd, .int .i64 x.m.fr, .int .i64 x.m.vw, .int .i64 x.m.ins, .int .i64 x.m.sq, .int .i64 x.m.rs, .slice x.A1 x.m.bt.length x.c1, .slice x.A2 x.m.vs.length x.c2, .slice x.A3 x.m.cs.length x.c3, .slice x.A4 x.m.ps.length x.c4] 38)) := (Below.refl _ w).alloc (Nat.le_refl _) _
  have HB1 := Lib.hid hb1
  have HBl := Lib.hid (Blk.new w 38 #[.int .i64 x.m.kd, .int .i64 x.m.fr, .int .i64 x.m.vw, .int .i64 x.m.ins, .int .i64 x.m.sq, .int .i64 x.m.rs, .slice x.A1 x.m.bt.length x.c1, .slice x.A2 x.m.vs.length x.c2, .slice x.A3 x.m.cs.length x.c3, .slice x.A4 x.m.ps.length x.c4])
  have HI := Lib.hid ((h.reads (Reads.below hb1 (Nat.le_refl _))).reads (Reads.more hb1.size))
  have HN := Lib.hid (hN.below hb1)
  have HL := Lib.hid hN.lt
  clear h hN hb1
  go_enter Tryz.func16, Tryz.ntmps16
  go_wp2_with fail
  obtain ⟨w1, hw1⟩ : ∃ w1, (w.alloc (.cells #[.int .i64 x.m.kd, .int .i64 x.m.fr, .int .i64 x.m.vw, .int .i64 x.m.ins, .int .i64 x.m.sq, .int .i64 x.m.rs, .slice x.A1 x.m.bt.length x.c1, .slice x.A2 x.m.vs.length x.c2, .slice x.A3 x.m.cs.length x.c3, .slice x.A4 x.m.ps.length x.c4] 38)) = w1 := ⟨_, rfl⟩
  rw [hw1] at HB1 HBl HI HN ⊢
  clear hw1
  refine (body_any x w1 HI.out hsz).mono ?_
  rintro e w2 ⟨hb2, ⟨bs, A, c, hbs, rfl, ho⟩ | ⟨hbs, rfl⟩⟩
  · have HB2 := Lib.hid hb2
    have HBS := Lib.hid hbs
    have HO := Lib.hid ho
    obtain ⟨n, hn⟩ : ∃ n, bs.length = n := ⟨_, rfl⟩
    have hn1 : n ≤ 65536 := by rw [← hn]; exact bodyM_len hbs
    rw [hn] at HO ⊢
    have HNn := Lib.hid hn
    have d1 := (HBl.out.below hb2 HBl.out.lt).cell 1
    simp only [List.getElem?_toArray, List.getElem?_cons_zero, List.getElem?_cons_succ] at d1
    clear hb2 hbs ho hn
    go_wp2_with fail
    refine (seal_any (HN.out.below HB2.out) hlen hfr (Has.own HO.out) HNn.out (by unfold maxLen; omega)).mono ?_
    rintro e w3 ⟨rfl, hnt, ht⟩
    have ho3 := ht.own HO.out (fun g hg => by
      have h1 := (HO.out.lt g hg).1
      have h2 := HL.out.2
      have h3 := HB1.out.size
      omega)
    have HT := Lib.hid ((((Turn.of_below (Z := fun k => k = bm) HB1.out).trans (Turn.of_below HB2.out))).trans ht)
    have HN3 := Lib.hid hnt
    have HO3 := Lib.hid ho3
    obtain ⟨sl, hsl⟩ : ∃ sl, sealS l (x.m.fr, strOfNums bs) = sl := ⟨_, rfl⟩
    rw [hsl]
    have HSl := Lib.hid hsl
    clear hnt ht ho3 hsl d1
    go_wp2_with fail
    refine (envelope_any sl HNn.out (by omega) _ (Has.own HO3.out) (gr_none HO3.out)).mono ?_
    rintro e w4 ⟨hb4, ⟨es, A4, c4, hes, rfl, ho4⟩ | ⟨hes, rfl⟩⟩
    · have HT4 := Lib.hid (HT.out.trans (Turn.of_below hb4))
      have HN4 := Lib.hid (HN3.out.below hb4)
      have HE := Lib.hid hes
      have hle : w.heap.size ≤ w3.heap.size := HT.out.size
      have HO4 := Lib.hid (own_down ho4 hle)
      clear hb4 hes ho4 hle
      go_wp2_with fail
      go_ret2
      refine Or.inr ⟨bs, HBS.out, HN4.out, HT4.out, ?_⟩
      unfold deedM
      rw [HSl.out]
      exact Or.inl ⟨es, A4, c4, HE.out, rfl, HO4.out⟩
    · have HT4 := Lib.hid (HT.out.trans (Turn.of_below hb4))
      have HN4 := Lib.hid (HN3.out.below hb4)
      have HE := Lib.hid hes
      clear hb4 hes
      go_wp2_with fail
      go_ret2
      refine Or.inr ⟨bs, HBS.out, HN4.out, HT4.out, ?_⟩
      unfold deedM
      rw [HSl.out]
      exact Or.inr ⟨HE.out, rfl⟩
  · have HB2 := Lib.hid (HB1.out.trans (hb2.mono HB1.out.size))
    have HBS := Lib.hid hbs
    clear hb2 hbs
    go_wp2_with fail
    go_ret2
    exact Or.inl ⟨HBS.out, rfl, HB2.out⟩
end Go.Proofs.YtbegjadohamkkaaGreat
/- Two notaries that have sealed the same: the law's own begin, Seal, Msg. -/
namespace Go.Proofs.YtbegjadohamkkaaGreat
open Go.RowKit

/-- Two notaries of B's own, that have both sealed L. -/
structure Tw (B nb bm rb : Nat) (L : List Deed) (R : Nat → Prop) (w : World) : Prop where
  nt : Nt w nb bm L
  rf : Rf R w rb L
  nd : L.Nodup
  zone : ∀ k, R k → B ≤ k ∧ k < w.heap.size
  nbR : ¬ R nb
  bmR : ¬ R bm
  nbw : B ≤ nb
  bmw : B ≤ bm
section
variable {B nb bm rb : Nat} {L : List Deed} {R : Nat → Prop} {w w2 : World}
theorem Tw.turn {Z : Nat → Prop} (h : Tw B nb bm rb L R w) (ht : Turn Z w w2) (hz : ∀ k, k < w.heap.size → Z k → ¬ R k ∧ k ≠ nb ∧ k ≠ bm) : Tw B nb bm rb L R w2 :=
  ⟨h.nt.kept ht (fun hk => (hz nb h.nt.lt.1 hk).2.1 rfl) (fun hk => (hz bm h.nt.lt.2 hk).2.2 rfl), h.rf.kept ht (fun k hk hr hzk => (hz k hk hzk).1 hr), h.nd,
    fun k hk => ⟨(h.zone k hk).1, Nat.lt_of_lt_of_le (h.zone k hk).2 ht.size⟩, h.nbR, h.bmR, h.nbw, h.bmw⟩
theorem Tw.below (h : Tw B nb bm rb L R w) (hb : Below w.heap.size w w2) : Tw B nb bm rb L R w2 := h.turn (Turn.of_below (Z := fun _ => False) hb) (fun _ _ hk => hk.elim)
theorem Tw.drewN (h : Tw B nb bm rb L R w) (n : Nat) : Tw B nb bm rb L R (w.drewN n) := h.turn ((Turn.refl (fun _ => False) w).drewN n) (fun _ _ hk => hk.elim)
/-- What lies ahead of both notaries stays. -/
theorem Tw.low (h : Tw B nb bm rb L R w) (ht : Turn (fun k => R k ∨ k = bm) w w2) (hB : B ≤ w.heap.size) : Below B w w2 :=
  ht.below hB (fun k hk he => by
    rcases he with he | rfl
    · have := (h.zone k he).1; omega
    · have := h.bmw; omega)
end
set_option maxHeartbeats 1000000 in
theorem begin_any (w : World) : Calls Tryz.prog 13 #[] w fun e w' => ∃ nb bm rb R, e = .returned (.tuple #[.agg #[.pointer (some ⟨nb, 0, none⟩), .pointer (some ⟨rb, 0, none⟩)], .bool true]) ∧ Tw w.heap.size nb bm rb [] R w' ∧ Below w.heap.size w w' := by
  go_enter Tryz.func13, Tryz.ntmps13
  go_wp2_with fail
  refine (new_any _).mono ?_
  rintro e w1 ⟨nb, bm, rfl, hN, hnb, hbm, hb⟩
  have HB := Lib.hid hb
  have HN := Lib.hid hN
  have HL := Lib.hid hN.lt
  clear hb hN
  go_wp2_with fail
  have hs0 : (w.alloc (.cells #[.pointer none, .pointer none] 30)).heap.size = w.heap.size + 1 := by simp
  have hs1 := HB.out.size
  rw [hs0] at hnb hbm hs1
  have hba : Below w.heap.size w (w.alloc (.cells #[.pointer none, .pointer none] 30)) := (Below.refl _ w).alloc (Nat.le_refl _) _
  have hb3 : Below w1.heap.size w1 ((w1.alloc (.cells #[.slice none 0 0, .slice none 0 0] 97)).alloc (.cells #[.pointer (some ⟨nb, 0, none⟩), .pointer (some ⟨w1.heap.size, 0, none⟩)] 30)) := ((Below.refl _ w1).alloc (Nat.le_refl _) _).alloc (by simp) _
  have HB3 := Lib.hid ((hba.trans (HB.out.mono (by rw [hs0]; omega))).trans (hb3.mono (by omega)))
  have HRs := Lib.hid (((Blk.new w 30 #[.pointer none, .pointer none]).below HB.out (by rw [hs0]; omega)).below hb3 (by omega))
  have HTb := Lib.hid (show Blk ((w1.alloc (.cells #[.slice none 0 0, .slice none 0 0] 97)).alloc (.cells #[.pointer (some ⟨nb, 0, none⟩), .pointer (some ⟨w1.heap.size, 0, none⟩)] 30)) (w1.heap.size + 1) 30 #[.pointer (some ⟨nb, 0, none⟩), .pointer (some ⟨w1.heap.size, 0, none⟩)] from by
    have h := Blk.new (w1.alloc (.cells #[.slice none 0 0, .slice none 0 0] 97)) 30 #[.pointer (some ⟨nb, 0, none⟩), .pointer (some ⟨w1.heap.size, 0, none⟩)]
    rwa [show (w1.alloc (.cells #[.slice none 0 0, .slice none 0 0] 97)).heap.size = w1.heap.size + 1 by simp] at h)
  have HTw := Lib.hid (show Tw w.heap.size nb bm w1.heap.size [] (fun k => k = w1.heap.size) ((w1.alloc (.cells #[.slice none 0 0, .slice none 0 0] 97)).alloc (.cells #[.pointer (some ⟨nb, 0, none⟩), .pointer (some ⟨w1.heap.size, 0, none⟩)] 30)) from
    ⟨HN.out.below hb3, ⟨rfl, _, _, (Blk.new _ _ _).alloc _, World.ownsRow_nil _ _ _ _, World.ownsRow_nil _ _ _ _, (fun g hg => by cases hg), (fun g hg => by cases hg)⟩, List.nodup_nil,
      fun k hk => ⟨by omega, by rw [hk]; simp; omega⟩, (fun e => by have := HL.out.1; omega), (fun e => by have := HL.out.2; omega), by omega, by omega⟩)
  obtain ⟨w3, hw3⟩ : ∃ w3, ((w1.alloc (.cells #[.slice none 0 0, .slice none 0 0] 97)).alloc (.cells #[.pointer (some ⟨nb, 0, none⟩), .pointer (some ⟨w1.heap.size, 0, none⟩)] 30)) = w3 := ⟨_, rfl⟩
  rw [hw3] at HB3 HRs HTb HTw ⊢
  clear hw3 hb3 hba hs0
  obtain ⟨g1, hg1⟩ : ∃ g, w1.heap.size = g := ⟨_, rfl⟩
  obtain ⟨g, hg⟩ : ∃ g, w.heap.size = g := ⟨_, rfl⟩
  have HG := Lib.hid hg
  rw [hg1] at HTb HTw hs1 ⊢
  rw [hg] at HRs HTw hs1 ⊢
  clear hg hg1 HN HL HB
  have hne : g ≠ g1 + 1 := by omega
  have hne2 : g1 + 1 ≠ g := by omega
  have d0 := HTb.out.cell 0
  have d1 := HTb.out.cell 1
  have r0 := HRs.out.cell 0
  have r1 := HRs.out.cell 1
  have f0 := HRs.out.frozen 0
  have f1 := HRs.out.frozen 1
  simp only [List.getElem?_toArray, List.getElem?_cons_zero, List.getElem?_cons_succ] at d0 d1 r0 r1
  go_region_held3 (fun w' => w'.cell? ⟨g1 + 1, 0, none⟩ = some (.pointer (some ⟨nb, 0, none⟩)) ∧ w'.cell? ⟨g1 + 1, 1, none⟩ = some (.pointer (some ⟨g1, 0, none⟩))) (go_keep) (fail)
  clear d0 d1 r0 r1 f0 f1 HTb
  rename_i hHeld
  clear hHeld
  have HT4 := Lib.hid ((((Turn.refl (fun k => k = g) w3).set_ ⟨g, 0, none⟩ (.pointer (some ⟨nb, 0, none⟩)) rfl).set_ ⟨g, 1, none⟩ (.pointer (some ⟨g1, 0, none⟩)) rfl).drewN 1)
  have HR4 := Lib.hid (show Blk (((w3.setCell ⟨g, 0, none⟩ (.pointer (some ⟨nb, 0, none⟩))).setCell ⟨g, 1, none⟩ (.pointer (some ⟨g1, 0, none⟩))).drewN 1) g 30 #[.pointer (some ⟨nb, 0, none⟩), .pointer (some ⟨g1, 0, none⟩)] from ((HRs.out.set_ 0 (.pointer (some ⟨nb, 0, none⟩))).set_ 1 (.pointer (some ⟨g1, 0, none⟩))).drewN 1)
  obtain ⟨w4, hw4⟩ : ∃ w4, ((w3.setCell ⟨g, 0, none⟩ (.pointer (some ⟨nb, 0, none⟩))).setCell ⟨g, 1, none⟩ (.pointer (some ⟨g1, 0, none⟩))).drew = w4 := ⟨_, rfl⟩
  rw [show ((w3.setCell ⟨g, 0, none⟩ (.pointer (some ⟨nb, 0, none⟩))).setCell ⟨g, 1, none⟩ (.pointer (some ⟨g1, 0, none⟩))).drewN 1 = w4 from hw4] at HT4 HR4
  rw [hw4]
  clear hw4 HRs
  have c0 := HR4.out.cell 0
  have c1 := HR4.out.cell 1
  simp only [List.getElem?_toArray, List.getElem?_cons_zero, List.getElem?_cons_succ] at c0 c1
  go_wp2_with fail
  refine bodyPost_ret (v := .tuple #[.agg #[.pointer (some ⟨nb, 0, none⟩), .pointer (some ⟨g1, 0, none⟩)], .bool true]) ?_ ?_ ?_
  case refine_2 => rfl
  case refine_3 =>
    have hb4 : Below w.heap.size w w4 := HB3.out.trans (HT4.out.below HB3.out.size (fun k hk he => by rw [HG.out] at hk; omega))
    have ht4 : Tw w.heap.size nb bm g1 [] (fun k => k = g1) w4 := by
      rw [HG.out]
      exact HTw.out.turn HT4.out (fun k hk he => by rw [HG.out] at hnb hbm; exact ⟨by omega, by omega, by omega⟩)
    exact ⟨nb, bm, g1, fun k => k = g1, rfl, ht4, hb4⟩
  simp [results, Tryz.results13, go_sem, c0, c1]
set_option maxHeartbeats 1000000 in
/-- Both give a seal: of bytes that lie in neither. -/
theorem tseal_any {B nb bm rb : Nat} {L : List Deed} {R : Nat → Prop} {w : World} (h : Tw B nb bm rb L R w) (hlen : L.length ≤ 1000000) {p : Int} (hp : fit p) {A : Option Addr} {n c C : Nat} {zs : List Int} (hh : Has w C A (u8s zs)) (hn : zs.length = n) (hm : n ≤ maxLen) (hA : ∀ ad, A = some ad → u8s zs ≠ [] → ¬ R ad.block) :
    Calls Tryz.prog 49 #[.agg #[.pointer (some ⟨nb, 0, none⟩), .pointer (some ⟨rb, 0, none⟩)], .int .i64 p, .slice A n c] w fun e w' => e = .returned (.int .i64 (sealS L (p, strOfNums zs))) ∧ ∃ R', Tw B nb bm rb (sealed L (p, strOfNums zs)) R' w' ∧ Turn (fun k => R k ∨ k = bm) w w' ∧ (∀ k, R' k → R k ∨ w.heap.size ≤ k) := by
  have hb1 : Below w.heap.size w (w.alloc (.cells #[.pointer (some ⟨nb, 0, none⟩), .pointer (some ⟨rb, 0, none⟩)] 30)) := (Below.refl _ w).alloc (Nat.le_refl _) _
  have HD := Lib.hid (h.below hb1)
  have HH := Lib.hid (has_apart hh (Turn.of_below (Z := fun _ => False) hb1) (fun _ _ _ h => h))
  have HA := Lib.hid hA
  have HN := Lib.hid hn
  have HM := Lib.hid hm
  have HP := Lib.hid hp
  have HB1 := Lib.hid hb1
  have HTb := Lib.hid (Blk.new w 30 #[.pointer (some ⟨nb, 0, none⟩), .pointer (some ⟨rb, 0, none⟩)])
  have HZ := Lib.hid (show ¬ R w.heap.size from fun e => by have := (h.zone _ e).2; omega)
  clear h hh hA hn hm hp hb1
  go_enter Tryz.func49, Tryz.ntmps49
  go_wp2_with fail
  obtain ⟨w0, hw0⟩ : ∃ w0, w.alloc (.cells #[.pointer (some ⟨nb, 0, none⟩), .pointer (some ⟨rb, 0, none⟩)] 30) = w0 := ⟨_, rfl⟩
  obtain ⟨g, hg⟩ : ∃ g, w.heap.size = g := ⟨_, rfl⟩
  have HG := Lib.hid hg
  rw [hw0] at HD HH HB1 HTb ⊢
  rw [hg] at HTb HZ ⊢
  clear hw0 hg
  refine (rseal_at HD.out.rf hlen HH.out HN.out HA.out).mono ?_
  rintro e w1 ⟨rfl, hR, ht⟩
  have HR := Lib.hid hR
  have HT := Lib.hid ht
  have HN1 := Lib.hid (HD.out.nt.kept ht HD.out.nbR HD.out.bmR)
  have HH1 := Lib.hid (has_apart HH.out ht HA.out)
  have HT1 := Lib.hid (ht.blk HTb.out HZ.out)
  have c0 := HT1.out.cell 0
  simp only [List.getElem?_toArray, List.getElem?_cons_zero] at c0
  clear hR ht
  go_wp2_with fail
  refine (seal_any HN1.out hlen HP.out HH1.out HN.out HM.out).mono ?_
  rintro e w2 ⟨rfl, hN2, ht2⟩
  have HN2 := Lib.hid hN2
  have HT2 := Lib.hid ht2
  clear hN2 ht2 c0
  go_wp2_with fail
  go_ret
  have hlt := HD.out.nt.lt
  have hnw := HD.out.nbw
  have hs2 := HT2.out.size
  have hs0 := HB1.out.size
  have hbm : ¬ ((R bm ∨ w0.heap.size ≤ bm) ∧ bm < w1.heap.size) := fun e => e.1.elim HD.out.bmR (fun e => by omega)
  refine ⟨rfl, fun k => (R k ∨ w0.heap.size ≤ k) ∧ k < w1.heap.size, ⟨HN2.out, (HR.out.mono (fun k hk hr => ⟨hr, hk⟩)).kept HT2.out (fun k _ hr e => hbm (e ▸ hr)), sealed_nodup HD.out.nd _, fun k hk => ⟨?_, by omega⟩,
    fun e => e.1.elim HD.out.nbR (fun e => by omega), hbm, hnw, HD.out.bmw⟩, (Turn.of_below HB1.out).trans ((HT.out.mono (fun _ _ h => Or.inl h)).trans (HT2.out.mono (fun _ _ h => Or.inr h))), fun k hk => hk.1.imp id (fun e => by omega)⟩
  rcases hk.1 with e | e
  · exact (HD.out.zone k e).1
  · omega
end Go.Proofs.YtbegjadohamkkaaGreat
/- The contracts of package msgs' smaller forms: isSeal, placed, single, batchForm, votesForm, certForm, behind. -/
namespace Go.Proofs.YtbegjadohamkkaaGreat
open Go.RowKit

set_option maxHeartbeats 400000 in
theorem misseal (n : Int) (w : World) : Calls Tryz.prog 168 #[.int .i64 n] w fun e w' => e = .returned (.bool (decide (0 ≤ n ∧ n < 1099511627776))) ∧ w' = w := by
  have HE := Lib.hid (show decide (0 ≤ n ∧ n < 1099511627776) = (decide (0 ≤ n) && decide (n ≤ 1099511627775)) by rw [Bool.eq_iff_iff]; simp; omega)
  rw [HE.out]
  have HW := Lib.hid (fun w => mwithin n 0 1099511627775 w)
  obtain ⟨r, hr⟩ : ∃ r, (decide (0 ≤ n) && decide (n ≤ 1099511627775)) = r := ⟨_, rfl⟩
  rw [hr] at HW ⊢
  clear hr HE
  go_enter Tryz.func168, Tryz.ntmps168
  go_wp2_with fail
  refine (HW.out _).mono ?_
  rintro e w1 ⟨rfl, rfl⟩
  go_wp2_with fail
  go_ret
  exact ⟨rfl, rfl⟩
set_option maxHeartbeats 1000000 in
theorem mplaced (v i s f : Int) (w : World) : Calls Tryz.prog 62 #[.int .i64 v, .int .i64 i, .int .i64 s, .int .i64 f] w fun e w' => e = .returned (.bool (spotS v i s f)) ∧ w' = w := by
  have HE := Lib.hid (show spotS v i s f = (((decide (0 ≤ v) && decide (v ≤ 12)) && (decide (0 ≤ i) && decide (i ≤ f))) && (decide (1 ≤ s) && decide (s ≤ 16))) by rw [Bool.eq_iff_iff]; simp [spotS]; omega)
  rw [HE.out]
  have H1 := Lib.hid (fun w => mwithin v 0 12 w)
  have H2 := Lib.hid (fun w => mwithin i 0 f w)
  have H3 := Lib.hid (fun w => mwithin s 1 16 w)
  obtain ⟨r1, hr1⟩ : ∃ r, (decide (0 ≤ v) && decide (v ≤ 12)) = r := ⟨_, rfl⟩
  obtain ⟨r2, hr2⟩ : ∃ r, (decide (0 ≤ i) && decide (i ≤ f)) = r := ⟨_, rfl⟩
  obtain ⟨r3, hr3⟩ : ∃ r, (decide (1 ≤ s) && decide (s ≤ 16)) = r := ⟨_, rfl⟩
  rw [hr1] at H1 ⊢
  rw [hr2] at H2 ⊢
  rw [hr3] at H3 ⊢
  clear hr1 hr2 hr3 HE
  cases r1
  · go_enter Tryz.func62, Tryz.ntmps62
    go_wp2_with fail
    refine (H1.out _).mono ?_
    rintro e w1 ⟨rfl, rfl⟩
    go_wp2_with fail
    go_ret
    exact ⟨rfl, rfl⟩
  · cases r2
    · go_enter Tryz.func62, Tryz.ntmps62
      go_wp2_with fail
      refine (H1.out _).mono ?_
      rintro e w1 ⟨rfl, rfl⟩
      go_wp2_with fail
      refine (H2.out _).mono ?_
      rintro e w1 ⟨rfl, rfl⟩
      go_wp2_with fail
      go_ret
      exact ⟨rfl, rfl⟩
    · go_enter Tryz.func62, Tryz.ntmps62
      go_wp2_with fail
      refine (H1.out _).mono ?_
      rintro e w1 ⟨rfl, rfl⟩
      go_wp2_with fail
      refine (H2.out _).mono ?_
      rintro e w1 ⟨rfl, rfl⟩
      go_wp2_with fail
      refine (H3.out _).mono ?_
      rintro e w1 ⟨rfl, rfl⟩
      go_wp2_with fail
      go_ret
      exact ⟨by simp, rfl⟩
/-- One request, and it is right. -/
def oneS (l : List Rq) (n : Int) : Bool := match l with | [r] => validS r n | _ => false
theorem oneS_is {l : List Rq} {x : Rq} {n : Int} (h : l.length = 1) (hx : l[0]? = some x) : oneS l n = validS x n := by
  match l, h with
  | [r], _ => cases hx; rfl
theorem oneS_no {l : List Rq} {n : Int} (h : l.length ≠ 1) : oneS l n = false := by
  match l, h with
  | [], _ => rfl
  | [_], h => exact absurd rfl h
  | _ :: _ :: _, _ => rfl
set_option maxHeartbeats 1000000 in
set_option maxRecDepth 100000 in
theorem msingle {w : World} {A : Option Addr} {c B : Nat} {l : List Rq} (hh : Has w B A (reqCells l)) (n : Int) :
    Calls Tryz.prog 130 #[.slice A l.length c, .int .i64 n] w fun e w' => e = .returned (.bool (oneS l n)) ∧ Below w.heap.size w w' := by
  by_cases h1 : l.length = 1
  · have hlt : 0 < l.length := by omega
    obtain ⟨a1, rfl, _, c0, c1, c2, c3, c4, c5⟩ := hh.req hlt
    have HE := Lib.hid (oneS_is (n := n) h1 (List.getElem?_eq_getElem hlt))
    obtain ⟨x, hx⟩ : ∃ x, l[0] = x := ⟨_, rfl⟩
    rw [hx] at c0 c1 c2 c3 c4 c5 HE
    have HP := Lib.hid (fun w => rq_valid x n w)
    rw [HE.out]
    have t0 : ((l.length : Int) == 1) = true := by simp [h1]
    have t1 : (0 : Int) < (l.length : Int) := by omega
    have e0 : a1.add (0 * 6) = a1 := rfl
    rw [e0] at c0 c1 c2 c3 c4 c5
    clear hx hh HE
    go_enter Tryz.func130, Tryz.ntmps130
    go_wp2_with fail
    refine (HP.out _).mono ?_
    rintro e w2 ⟨rfl, hb2⟩
    go_wp2_with fail
    go_ret
    exact ⟨rfl, hb2⟩
  · have HE := Lib.hid (oneS_no (n := n) h1)
    rw [HE.out]
    have t0 : ((l.length : Int) == 1) = false := by rw [beq_eq_false_iff_ne]; omega
    clear h1 hh
    go_enter Tryz.func130, Tryz.ntmps130
    go_wp2_with fail
    go_ret
    exact ⟨rfl, Below.refl _ _⟩
set_option maxHeartbeats 1000000 in
set_option maxRecDepth 100000 in
theorem mvalid1 (r : Rq) (n : Int) (p : Addr) (w : World) (hp : w.cell? p = some (.int .i64 n)) (hb : p.block < w.heap.size) :
    Calls Tryz.prog 184 #[.agg #[.int .i64 r.cl, .int .i64 r.tm, .int .i64 r.kd, .int .i64 r.ky, .int .i64 r.vl, .int .i64 r.sg], .pointer (some p)] w fun e w' => e = .returned (.bool (validS r n)) ∧ Below w.heap.size w w' := by
  have HB := Lib.hid (fun cs => show Below w.heap.size w (w.alloc (.cells cs 69)) from (Below.refl _ w).alloc (Nat.le_refl _) _)
  have HP := Lib.hid (fun w => rq_valid r n w)
  have d0 := fun cs => ((HB.out cs).cell hb).trans hp
  clear hp hb
  go_enter Tryz.func184, Tryz.ntmps184
  go_wp2_with fail
  refine (HP.out _).mono ?_
  rintro e w2 ⟨rfl, hb2⟩
  go_wp2_with fail
  go_ret
  exact ⟨rfl, (HB.out _).trans (hb2.mono (HB.out _).size)⟩
set_option maxHeartbeats 1000000 in
set_option maxRecDepth 100000 in
theorem mallreq {w : World} {A : Option Addr} {c : Nat} {l : List Rq} (hh : Has w w.heap.size A (reqCells l)) (hl : l.length ≤ 1000000) (n : Int) (p : Addr) (hp : w.cell? p = some (.int .i64 n)) (hb : p.block < w.heap.size) :
    Calls Tryz.prog 183 #[.slice A l.length c, .func (.func 184) #[] #[.pointer (some p)]] w fun e w' => e = .returned (.bool (l.all (fun r => validS r n))) ∧ Below w.heap.size w w' := by
  have H1 := Lib.hid hh
  have HP := Lib.hid hp
  have HPB := Lib.hid hb
  clear hh hp hb
  go_enter Tryz.func183, Tryz.ntmps183
  go_wp2_with fail
  go_loopw [9] (fun x wr => ∃ k : Nat, x = .int .i64 k ∧ k ≤ l.length ∧ Hid (Below w.heap.size w wr) ∧ Hid ((l.take k).all (fun r => validS r n) = true)) (fun x _ => l.length - (intOf x).toNat)
  case atStart => exact ⟨0, rfl, Nat.zero_le _, Below.refl _ _, rfl⟩
  case round =>
    obtain ⟨k, rfl, hk, HW, HT⟩ := hrel
    by_cases hlt : k < l.length
    · obtain ⟨a1, rfl, _, c0, c1, c2, c3, c4, c5⟩ := (H1.out.below HW.out (Nat.le_refl _)).req hlt
      have HX := Lib.hid (show l[k]? = some l[k] from List.getElem?_eq_getElem hlt)
      obtain ⟨x, hx⟩ : ∃ x, l[k] = x := ⟨_, rfl⟩
      rw [hx] at c0 c1 c2 c3 c4 c5 HX
      have HBx := Lib.hid (HW.out.alloc HW.out.size (.cells #[.int .i64 x.cl, .int .i64 x.tm, .int .i64 x.kd, .int .i64 x.ky, .int .i64 x.vl, .int .i64 x.sg] 69))
      have HC := Lib.hid (mvalid1 x n p (wr.alloc (.cells #[.int .i64 x.cl, .int .i64 x.tm, .int .i64 x.kd, .int .i64 x.ky, .int .i64 x.vl, .int .i64 x.sg] 69)) ((HBx.out.cell HPB.out).trans HP.out) (Nat.lt_of_lt_of_le HPB.out HBx.out.size))
      clear hx
      cases hv : validS x n
      · have HE := Lib.hid (all_far (p := fun r => validS r n) HX.out hv)
        rw [hv] at HC
        clear hv
        go_wp2_with (go_at_call 184; refine HC.out.mono ?_; rintro e w2 ⟨rfl, hb2⟩; have HB2 := Lib.hid (HBx.out.trans (hb2.mono HBx.out.size)); clear hb2)
        go_ret
        exact ⟨by rw [HE.out]; rfl, by assumption⟩
      · have HE := Lib.hid (show (l.take (k + 1)).all (fun r => validS r n) = true by rw [all_next HX.out, HT.out, hv]; rfl)
        rw [hv] at HC
        clear hv
        go_wp2_with (go_at_call 184; refine HC.out.mono ?_; rintro e w2 ⟨rfl, hb2⟩; have HB2 := Lib.hid (HBx.out.trans (hb2.mono HBx.out.size)); clear hb2)
        go_roundw
        case rel => exact ⟨k + 1, by go_num, by omega, by assumption, HE.out⟩
        case measure => simp [intOf]; omega
    · have HE := Lib.hid (show l.all (fun r => validS r n) = true by have := HT.out; rwa [List.take_of_length_le (by omega)] at this)
      go_wp2_with fail
      go_ret
      exact ⟨by rw [HE.out]; rfl, HW.out⟩
set_option maxHeartbeats 1000000 in
set_option maxRecDepth 100000 in
theorem mfew_any {w : World} {A : Option Addr} {c : Nat} {l : List Rq} (hh : Has w w.heap.size A (reqCells l)) (hl : l.length ≤ 1000000) (n : Int) :
    Calls Tryz.prog 164 #[.slice A l.length c, .int .i64 n] w fun e w' => e = .returned (.bool (fewS l n)) ∧ Below w.heap.size w w' := by
  have hmf : ∀ (fn : Fn) (first cap : Array Value) (w : World), (Instr.makeFunc fn first cap).run Tryz.prog w = .ok (.func fn first cap) w := fun _ _ _ _ => rfl
  have HB := Lib.hid (show Below w.heap.size w (w.alloc (.cells #[.int .i64 n] 3)) from (Below.refl _ w).alloc (Nat.le_refl _) _)
  have HA := Lib.hid (mallreq (c := c) (Reads.more HB.out.size _ _ (Reads.below HB.out (Nat.le_refl _) _ _ hh)) hl n ⟨w.heap.size, 0, none⟩ ((Blk.new w 3 #[.int .i64 n]).cell 0) (Blk.new w 3 #[.int .i64 n]).lt)
  by_cases h4 : l.length ≤ 4
  · have t0 : decide ((l.length : Int) ≤ 4) = true := decide_eq_true (by omega)
    have t1 : decide (l.length ≤ 4) = true := decide_eq_true h4
    have HF := Lib.hid (show fewS l n = l.all (fun r => validS r n) by unfold fewS; rw [decide_eq_true h4, Bool.true_and])
    rw [HF.out]
    clear hh h4
    go_enter Tryz.func164, Tryz.ntmps164
    go_wp2_with fail
    refine HA.out.mono ?_
    rintro e w2 ⟨rfl, hb2⟩
    go_wp2_with fail
    go_ret
    exact ⟨rfl, HB.out.trans (hb2.mono HB.out.size)⟩
  · have t0 : decide ((l.length : Int) ≤ 4) = false := decide_eq_false (by omega)
    have t1 : decide (l.length ≤ 4) = false := decide_eq_false h4
    have HF := Lib.hid (show fewS l n = false by unfold fewS; rw [decide_eq_false h4]; rfl)
    rw [HF.out]
    clear hh h4 HA
    go_enter Tryz.func164, Tryz.ntmps164
    go_wp2_with fail
    go_ret
    exact ⟨rfl, HB.out⟩
end Go.Proofs.YtbegjadohamkkaaGreat
/- The contracts of package msgs' votesForm, certForm, behind. -/
namespace Go.Proofs.YtbegjadohamkkaaGreat
open Go.RowKit

set_option maxHeartbeats 1000000 in
set_option maxRecDepth 100000 in
theorem mvseal1 (v : Vt) (w : World) :
    Calls Tryz.prog 185 #[.agg #[.int .i64 v.nd, .int .i64 v.sg]] w fun e w' => e = .returned (.bool (decide (0 ≤ v.sg ∧ v.sg < 1099511627776))) ∧ Below w.heap.size w w' := by
  have HB := Lib.hid (fun cs => show Below w.heap.size w (w.alloc (.cells cs 65)) from (Below.refl _ w).alloc (Nat.le_refl _) _)
  have HP := Lib.hid (fun w => misseal v.sg w)
  obtain ⟨r, hr⟩ : ∃ r, decide (0 ≤ v.sg ∧ v.sg < 1099511627776) = r := ⟨_, rfl⟩
  rw [hr] at HP ⊢
  clear hr
  go_enter Tryz.func185, Tryz.ntmps185
  go_wp2_with fail
  refine (HP.out _).mono ?_
  rintro e w2 ⟨rfl, rfl⟩
  go_wp2_with fail
  go_ret
  exact ⟨rfl, HB.out _⟩
set_option maxHeartbeats 1000000 in
set_option maxRecDepth 100000 in
theorem mallvote {w : World} {A : Option Addr} {c : Nat} {l : List Vt} (hh : Has w w.heap.size A (voteCells l)) (hl : l.length ≤ 1000000) :
    Calls Tryz.prog 65 #[.slice A l.length c, .func (.func 185) #[] #[]] w fun e w' => e = .returned (.bool (sealsS l)) ∧ Below w.heap.size w w' := by
  have H1 := Lib.hid hh
  clear hh
  go_enter Tryz.func65, Tryz.ntmps65
  go_wp2_with fail
  go_loopw [9] (fun x wr => ∃ k : Nat, x = .int .i64 k ∧ k ≤ l.length ∧ Hid (Below w.heap.size w wr) ∧ Hid ((l.take k).all (fun v => decide (0 ≤ v.sg ∧ v.sg < 1099511627776)) = true)) (fun x _ => l.length - (intOf x).toNat)
  case atStart => exact ⟨0, rfl, Nat.zero_le _, Below.refl _ _, rfl⟩
  case round =>
    obtain ⟨k, rfl, hk, HW, HT⟩ := hrel
    by_cases hlt : k < l.length
    · obtain ⟨ad, rfl, _, c0, c1⟩ := vote_at (H1.out.below HW.out (Nat.le_refl _)) hlt
      have HX := Lib.hid (show l[k]? = some l[k] from List.getElem?_eq_getElem hlt)
      obtain ⟨x, hx⟩ : ∃ x, l[k] = x := ⟨_, rfl⟩
      rw [hx] at c0 c1 HX
      have HBx := Lib.hid (HW.out.alloc HW.out.size (.cells #[.int .i64 x.nd, .int .i64 x.sg] 65))
      have HC := Lib.hid (mvseal1 x (wr.alloc (.cells #[.int .i64 x.nd, .int .i64 x.sg] 65)))
      clear hx
      cases hv : decide (0 ≤ x.sg ∧ x.sg < 1099511627776)
      · have HE := Lib.hid (show sealsS l = false from all_far (p := fun v : Vt => decide (0 ≤ v.sg ∧ v.sg < 1099511627776)) HX.out hv)
        rw [hv] at HC
        clear hv
        go_wp2_with (go_at_call 185; refine HC.out.mono ?_; rintro e w2 ⟨rfl, hb2⟩; have HB2 := Lib.hid (HBx.out.trans (hb2.mono HBx.out.size)); clear hb2)
        go_ret
        exact ⟨by rw [HE.out]; rfl, by assumption⟩
      · have HE := Lib.hid (show (l.take (k + 1)).all (fun v => decide (0 ≤ v.sg ∧ v.sg < 1099511627776)) = true by rw [all_next HX.out, HT.out, hv]; rfl)
        rw [hv] at HC
        clear hv
        go_wp2_with (go_at_call 185; refine HC.out.mono ?_; rintro e w2 ⟨rfl, hb2⟩; have HB2 := Lib.hid (HBx.out.trans (hb2.mono HBx.out.size)); clear hb2)
        go_roundw
        case rel => exact ⟨k + 1, by go_num, by omega, by assumption, HE.out⟩
        case measure => simp [intOf]; omega
    · have HE := Lib.hid (show sealsS l = true by have := HT.out; rwa [List.take_of_length_le (by omega)] at this)
      go_wp2_with fail
      go_ret
      exact ⟨by rw [HE.out]; rfl, HW.out⟩
set_option maxHeartbeats 1000000 in
set_option maxRecDepth 100000 in
theorem mvotes_any {w : World} {A : Option Addr} {c : Nat} {l : List Vt} (hh : Has w w.heap.size A (voteCells l)) (hl : l.length ≤ 1000000) (f : Int) :
    Calls Tryz.prog 166 #[.slice A l.length c, .int .i64 f] w fun e w' => e = .returned (.bool (risingS l f && sealsS l)) ∧ Below w.heap.size w w' := by
  have HR := Lib.hid (rising_any (c := c) hh rfl (by unfold maxLen; omega) f)
  have HA := Lib.hid (fun w2 (hb : Below w.heap.size w w2) => mallvote (c := c) (Reads.more hb.size _ _ (Reads.below hb (Nat.le_refl _) _ _ hh)) hl)
  clear hh hl
  cases hr : risingS l f
  · rw [hr] at HR
    clear hr HA
    go_enter Tryz.func166, Tryz.ntmps166
    go_wp2_with fail
    refine HR.out.mono ?_
    rintro e w1 ⟨rfl, hb1⟩
    go_wp2_with fail
    go_ret
    exact ⟨rfl, hb1⟩
  · rw [hr] at HR
    clear hr
    go_enter Tryz.func166, Tryz.ntmps166
    go_wp2_with fail
    refine HR.out.mono ?_
    rintro e w1 ⟨rfl, hb1⟩
    have HB1 := Lib.hid hb1
    clear hb1
    go_wp2_with fail
    refine (HA.out _ HB1.out).mono ?_
    rintro e w2 ⟨rfl, hb2⟩
    go_wp2_with fail
    go_ret
    exact ⟨by simp, HB1.out.trans (hb2.mono HB1.out.size)⟩
set_option maxHeartbeats 1000000 in
set_option maxRecDepth 100000 in
theorem mcert_any (x : Cs) {w : World} (h : x.In w w.heap.size) (hs : x.Short) (f n : Int) :
    Calls Tryz.prog 135 #[.agg #[.int .i64 x.c.vw, .int .i64 x.c.ins, .int .i64 x.c.sq, .slice x.A1 x.c.bt.length x.c1, .slice x.A2 x.c.vs.length x.c2], .int .i64 f, .int .i64 n] w fun e w' => e = .returned (.bool (certS f n x.c)) ∧ Below w.heap.size w w' := by
  have HB := Lib.hid (show Below w.heap.size w (w.alloc (.cells #[.int .i64 x.c.vw, .int .i64 x.c.ins, .int .i64 x.c.sq, .slice x.A1 x.c.bt.length x.c1, .slice x.A2 x.c.vs.length x.c2] 25)) from (Below.refl _ _).alloc (Nat.le_refl _) _)
  have HX := Lib.hid (show Blk (w.alloc (.cells #[.int .i64 x.c.vw, .int .i64 x.c.ins, .int .i64 x.c.sq, .slice x.A1 x.c.bt.length x.c1, .slice x.A2 x.c.vs.length x.c2] 25)) w.heap.size 25 _ from Blk.new _ _ _)
  have KP := Lib.hid (fun w => mplaced x.c.vw x.c.ins x.c.sq f w)
  have HI1 := h.reads (Reads.below HB.out (Nat.le_refl _)) |>.reads (Reads.more HB.out.size)
  have KF := Lib.hid (mfew_any (c := x.c1) HI1.bt hs.bt n)
  have KV := Lib.hid (fun w2 (hb : Below w.heap.size w w2) => mvotes_any (w := w2) (c := x.c2) (Reads.more hb.size _ _ (Reads.below hb (Nat.le_refl _) _ _ h.vs)) hs.vs f)
  clear h hs HI1
  go_enter Tryz.func135, Tryz.ntmps135
  go_wp2_with fail
  refine (KP.out _).mono ?_
  rintro e w' ⟨rfl, rfl⟩
  cases hp : spotS x.c.vw x.c.ins x.c.sq f
  · have HE := Lib.hid (show certS f n x.c = false by unfold certS; rw [hp]; rfl)
    clear hp
    go_wp2_with fail
    go_ret
    exact ⟨by rw [HE.out]; rfl, HB.out⟩
  · have HP := Lib.hid hp
    clear hp
    go_wp2_with fail
    refine KF.out.mono ?_
    rintro e w2 ⟨rfl, hb2⟩
    have HB2 := Lib.hid (HB.out.trans (hb2.mono HB.out.size))
    have hx2 := HX.out.below hb2 HX.out.lt
    have d4 : w2.cell? ⟨w.heap.size, 4, none⟩ = some (.slice x.A2 x.c.vs.length x.c2) := hx2.cell 4
    clear hb2 hx2 KF KP
    cases hf : fewS x.c.bt n
    · have HE := Lib.hid (show certS f n x.c = false by unfold certS; rw [hf]; simp)
      clear hf
      go_wp2_with fail
      go_ret
      exact ⟨by rw [HE.out]; rfl, HB2.out⟩
    · have HE := Lib.hid (show certS f n x.c = (risingS x.c.vs f && sealsS x.c.vs) by unfold certS; rw [hf, HP.out]; simp)
      clear hf
      go_wp2_with fail
      refine (KV.out _ HB2.out).mono ?_
      rintro e w3 ⟨rfl, hb3⟩
      go_wp2_with fail
      go_ret
      exact ⟨by rw [HE.out]; rfl, HB2.out.trans (hb3.mono HB2.out.size)⟩
set_option maxHeartbeats 1000000 in
set_option maxRecDepth 100000 in
theorem mbehind_any (x y : Cs) (w : World) :
    Calls Tryz.prog 167 #[.agg #[.int .i64 x.c.vw, .int .i64 x.c.ins, .int .i64 x.c.sq, .slice x.A1 x.c.bt.length x.c1, .slice x.A2 x.c.vs.length x.c2], .agg #[.int .i64 y.c.vw, .int .i64 y.c.ins, .int .i64 y.c.sq, .slice y.A1 y.c.bt.length y.c1, .slice y.A2 y.c.vs.length y.c2]] w fun e w' => e = .returned (.bool (behindS x.c y.c)) ∧ Below w.heap.size w w' := by
  have HB := Lib.hid (fun cs ds => show Below w.heap.size w ((w.alloc (.cells cs 25)).alloc (.cells ds 25)) from ((Below.refl _ w).alloc (Nat.le_refl _) _).alloc (by simp) _)
  by_cases h1 : x.c.ins < y.c.ins
  · have t1 : decide (x.c.ins < y.c.ins) = true := decide_eq_true h1
    rw [show behindS x.c y.c = true from decide_eq_true (Or.inl h1)]
    clear h1
    go_enter Tryz.func167, Tryz.ntmps167
    go_wp2_with fail
    go_ret
    exact ⟨rfl, HB.out _ _⟩
  · have t1 : decide (x.c.ins < y.c.ins) = false := decide_eq_false h1
    by_cases h2 : y.c.ins = x.c.ins
    · have t2 : (y.c.ins == x.c.ins) = true := by simpa using h2
      rw [show behindS x.c y.c = decide (x.c.sq < y.c.sq) from decide_eq_decide.mpr (by omega)]
      clear h1 h2
      go_enter Tryz.func167, Tryz.ntmps167
      go_wp2_with fail
      go_ret
      exact ⟨rfl, HB.out _ _⟩
    · have t2 : (y.c.ins == x.c.ins) = false := by simpa using h2
      rw [show behindS x.c y.c = false from decide_eq_false (by omega)]
      clear h1 h2
      go_enter Tryz.func167, Tryz.ntmps167
      go_wp2_with fail
      go_ret
      exact ⟨rfl, HB.out _ _⟩
end Go.Proofs.YtbegjadohamkkaaGreat
/- The contract of the document's parts, whatever their number; of has. -/
namespace Go.Proofs.YtbegjadohamkkaaGreat
open Go.RowKit Go.Sort

theorem parts_no0 {view : Int} {l : List Pt} {f n : Int} (h : ¬ (l.length : Int) = 2 * f + 1) : partsS view l f n = false := by unfold partsS; rw [decide_eq_false h]; rfl
set_option maxHeartbeats 1000000 in
set_option maxRecDepth 100000 in
theorem rparts_any (m : Ms) {w : World} (h : m.In w w.heap.size) (hs : ∀ p ∈ m.m.ps, p.Short) (hl : m.m.ps.length ≤ 1000000) (f n : Int) (hf : 1 ≤ f ∧ f ≤ 4) :
    Calls Tryz.prog 84 #[.agg #[.int .i64 m.m.kd, .int .i64 m.m.fr, .int .i64 m.m.vw, .int .i64 m.m.ins, .int .i64 m.m.sq, .int .i64 m.m.rs, .slice m.A1 m.m.bt.length m.c1, .slice m.A2 m.m.vs.length m.c2, .slice m.A3 m.m.cs.length m.c3, .slice m.A4 m.m.ps.length m.c4], .int .i64 f, .int .i64 n] w fun e w' => e = .returned (.bool (partsS m.m.vw m.m.ps f n)) ∧ Below w.heap.size w w' := by
  by_cases hlen : (m.m.ps.length : Int) = 2 * f + 1
  · exact rparts_loop m h hs hl f n hf hlen
  · rw [parts_no0 hlen]
    have hne : ((m.m.ps.length : Int) != 2 * f + 1) = true := by simpa using hlen
    have HW0 := Lib.hid (show RowKit.Below w.heap.size w (w.alloc (.cells #[.int .i64 m.m.kd, .int .i64 m.m.fr, .int .i64 m.m.vw, .int .i64 m.m.ins, .int .i64 m.m.sq, .int .i64 m.m.rs, .slice m.A1 m.m.bt.length m.c1, .slice m.A2 m.m.vs.length m.c2, .slice m.A3 m.m.cs.length m.c3, .slice m.A4 m.m.ps.length m.c4] 38)) from (Below.refl _ _).alloc (Nat.le_refl _) _)
    have HMB := Lib.hid (show Blk (w.alloc (.cells #[.int .i64 m.m.kd, .int .i64 m.m.fr, .int .i64 m.m.vw, .int .i64 m.m.ins, .int .i64 m.m.sq, .int .i64 m.m.rs, .slice m.A1 m.m.bt.length m.c1, .slice m.A2 m.m.vs.length m.c2, .slice m.A3 m.m.cs.length m.c3, .slice m.A4 m.m.ps.length m.c4] 38)) w.heap.size 38 #[.int .i64 m.m.kd, .int .i64 m.m.fr, .int .i64 m.m.vw, .int .i64 m.m.ins, .int .i64 m.m.sq, .int .i64 m.m.rs, .slice m.A1 m.m.bt.length m.c1, .slice m.A2 m.m.vs.length m.c2, .slice m.A3 m.m.cs.length m.c3, .slice m.A4 m.m.ps.length m.c4] from Blk.new _ _ _)
    have KQ0 := fun (W : World) d os => Calls.regrown_of ((rquorum_any f (grow (redrawn W d) os)).mono fun _ _ ⟨he, hw⟩ => ⟨he, hw ▸ Below.refl _ _⟩)
    rw [quorumS_in hf.1 hf.2] at KQ0
    have HKQ := Lib.hid KQ0
    clear h hs hl hlen KQ0
    go_enter Tryz.func84, Tryz.ntmps84
    go_wp2_with fail
    obtain ⟨w0, hw0⟩ : ∃ w0, w.alloc (.cells #[.int .i64 m.m.kd, .int .i64 m.m.fr, .int .i64 m.m.vw, .int .i64 m.m.ins, .int .i64 m.m.sq, .int .i64 m.m.rs, .slice m.A1 m.m.bt.length m.c1, .slice m.A2 m.m.vs.length m.c2, .slice m.A3 m.m.cs.length m.c3, .slice m.A4 m.m.ps.length m.c4] 38) = w0 := ⟨_, rfl⟩
    rw [hw0] at HW0 HMB ⊢
    obtain ⟨g0, hg0⟩ : ∃ g0, w.heap.size = g0 := ⟨_, rfl⟩
    rw [hg0] at HMB ⊢
    clear hw0 hg0
    have m9 := HMB.out.cell 9
    simp only [List.getElem?_toArray, List.getElem?_cons_zero, List.getElem?_cons_succ] at m9
    have m9 := cell_regrown m9
    have KQ := HKQ.out w0
    have HB1 := Lib.hid (RowKit.Below.refl w0.heap.size w0)
    refine wp_region_quiet_below (by kernel_rfl) (by kernel_rfl) ?_
    refine wq_out ?_
    refine wq_do (by kernel_rfl) (fun K hK => ?_)
    go_simp
    refine hK _ ?_
    clear hK K
    refine wq_do (by kernel_rfl) (fun K hK => ?_)
    go_simp
    refine hK _ ?_
    clear hK K
    refine wq_do (by kernel_rfl) (fun K hK => ?_)
    go_simp
    refine hK _ ?_
    clear hK K
    refine wq_do (by kernel_rfl) (fun K hK => ?_)
    go_simp
    refine hK _ ?_
    clear hK K
    refine wq_do (by kernel_rfl) (fun K hK => ?_)
    go_simp
    apply Exists.intro
    refine ⟨fun a => ?_, hK _ ?_⟩
    · exact KQ a.d a.os
    clear hK K
    refine wq_do (by kernel_rfl) (fun K hK => ?_)
    go_simp
    refine hK _ ?_
    clear hK K
    refine wq_nil ?_
    intro _ hw'
    obtain ⟨⟨dq, osq⟩, hw''⟩ := hw'
    subst hw''
    have HB3 := Lib.hid (HB1.out.trans ((below_regrown w0 dq osq).mono HB1.out.size))
    clear KQ m9 HB1
    go_wp2_with fail
    go_ret
    exact ⟨rfl, HW0.out.trans (HB3.out.mono HW0.out.size)⟩
end Go.Proofs.YtbegjadohamkkaaGreat
/- The contract of keep.Heavy: has a message more than is played? -/
namespace Go.Proofs.YtbegjadohamkkaaGreat
open Go.RowKit

def lightP (p : Pt) : Bool := decide (p.vs.length ≤ 30) && !heavyC p.cs
def heavyM (m : Mg) : Bool := !(decide (m.bt.length ≤ 12 ∧ m.vs.length ≤ 30 ∧ m.ps.length ≤ 12) && !heavyC m.cs && m.ps.all lightP)
theorem heavyM_len {m : Mg} (h : ¬ (m.bt.length ≤ 12 ∧ m.vs.length ≤ 30 ∧ m.ps.length ≤ 12)) : heavyM m = true := by simp only [heavyM, decide_eq_false h, Bool.false_and]; rfl
theorem heavyM_certs {m : Mg} (h : heavyC m.cs = true) : heavyM m = true := by simp [heavyM, h]
theorem heavyM_part {m : Mg} {k : Nat} (hk : k < m.ps.length) (h : lightP m.ps[k] = false) : heavyM m = true := by
  have : m.ps.all lightP = false := by
    rw [List.all_eq_false]
    exact ⟨m.ps[k], List.getElem_mem hk, by simp [h]⟩
  simp [heavyM, this]
theorem heavyM_no {m : Mg} (h1 : m.bt.length ≤ 12 ∧ m.vs.length ≤ 30 ∧ m.ps.length ≤ 12) (h2 : heavyC m.cs = false) (h3 : (m.ps.take m.ps.length).all lightP = true) : heavyM m = false := by
  rw [List.take_length] at h3
  simp [heavyM, h1, h2, h3]
theorem light_msg {m : Mg} (h : heavyM m = false) : m.bt.length ≤ 12 ∧ m.vs.length ≤ 30 ∧ m.ps.length ≤ 12 ∧ heavyC m.cs = false ∧ ∀ q ∈ m.ps, q.vs.length ≤ 30 ∧ heavyC q.cs = false := by
  simp only [heavyM, Bool.not_eq_false', Bool.and_eq_true, decide_eq_true_eq, List.all_eq_true, Bool.not_eq_true'] at h
  refine ⟨h.1.1.1, h.1.1.2.1, h.1.1.2.2, h.1.2, fun q hq => ?_⟩
  have := h.2 q hq
  simpa [lightP] using this
theorem light_parts {l : List Pt} (h1 : l.length ≤ 12) (h2 : ∀ q ∈ l, q.vs.length ≤ 30 ∧ heavyC q.cs = false) : (listToks Pt.toks l).length ≤ 33649 := by
  have h3 : (l.flatMap Pt.toks).length ≤ l.length * 2804 := flatMap_le fun q hq => by
    have := h2 q hq
    have := certs_toks this.2
    rw [part_toks]; omega
  have h4 : l.length * 2804 ≤ 12 * 2804 := Nat.mul_le_mul_right _ h1
  simp only [listToks, List.length_cons]
  omega
theorem light_toks {m : Mg} (h : heavyM m = false) : 10 ≤ m.toks.length ∧ m.toks.length ≤ 40000 := by
  obtain ⟨h1, h2, h3, h4, h5⟩ := light_msg h
  have h6 := certs_toks h4
  have h7 := light_parts h3 h5
  have h8 : 1 ≤ (listToks Ct.toks m.cs).length := by simp [listToks]
  have h9 : 1 ≤ (listToks Pt.toks m.ps).length := by simp [listToks]
  simp only [Mg.toks, Mg.head, List.length_append, List.length_cons, List.length_nil, reqs_toks, votes_toks]
  omega
theorem cert_small {l : List Ct} (h : heavyC l = false) : ∀ x ∈ l, smallCert x := fun x hx => by
  have := (light_of h).2 x hx
  exact ⟨by omega, by omega⟩
theorem light_ms {m : Mg} (h : heavyM m = false) : smallMs m := by
  obtain ⟨h1, h2, h3, h4, h5⟩ := light_msg h
  refine ⟨by omega, by omega, by have := (light_of h4).1; omega, cert_small h4, by omega, fun q hq => ?_⟩
  have := h5 q hq
  exact ⟨by omega, by have := (light_of this.2).1; omega, cert_small this.2⟩
set_option maxHeartbeats 4000000 in
set_option maxRecDepth 100000 in
theorem heavy_un (m : Mg) (A1 A2 A3 A4 : Option Addr) (c1 c2 c3 c4 : Nat) (w : World) (h : (Ms.mk m A1 c1 A2 c2 A3 c3 A4 c4).In w w.heap.size) :
    Calls Tryz.prog 30 #[.agg #[.int .i64 m.kd, .int .i64 m.fr, .int .i64 m.vw, .int .i64 m.ins, .int .i64 m.sq, .int .i64 m.rs, .slice A1 m.bt.length c1, .slice A2 m.vs.length c2, .slice A3 m.cs.length c3, .slice A4 m.ps.length c4]] w fun e w' => e = .returned (.bool (heavyM m)) ∧ Below w.heap.size w w' := by
  obtain ⟨_, _, h3, h4⟩ := h
  have hb1 : Below w.heap.size w (w.alloc (.cells #[.int .i64 m.kd, .int .i64 m.fr, .int .i64 m.vw, .int .i64 m.ins, .int .i64 m.sq, .int .i64 m.rs, .slice A1 m.bt.length c1, .slice A2 m.vs.length c2, .slice A3 m.cs.length c3, .slice A4 m.ps.length c4] 38)) := (Below.refl _ w).alloc (Nat.le_refl _) _
  have HB := Lib.hid hb1
  have HI := Lib.hid (h4.reads (Reads.below hb1 (Nat.le_refl _)))
  have HI3 := Lib.hid ((h3.reads (Reads.below hb1 (Nat.le_refl _))).reads (Reads.more hb1.size))
  have HC := Lib.hid (fun w h => heavy_certs A3 c3 m.cs (B := w.heap.size) w h)
  clear h3 h4 hb1
  by_cases h1 : 12 < m.bt.length
  case pos =>
    have HE := Lib.hid (heavyM_len (m := m) (by omega))
    go_enter Tryz.func30, Tryz.ntmps30
    go_wp2_with fail
    go_ret
    exact ⟨by rw [HE.out]; rfl, HB.out⟩
  have h1' : m.bt.length ≤ 12 := by omega
  clear h1
  by_cases h2 : 30 < m.vs.length
  case pos =>
    have HE := Lib.hid (heavyM_len (m := m) (by omega))
    go_enter Tryz.func30, Tryz.ntmps30
    go_wp2_with fail
    go_ret
    exact ⟨by rw [HE.out]; rfl, HB.out⟩
  have h2' : m.vs.length ≤ 30 := by omega
  clear h2
  cases hc : heavyC m.cs
  case true =>
    have HE := Lib.hid (heavyM_certs hc)
    rw [hc] at HC
    clear hc
    go_enter Tryz.func30, Tryz.ntmps30
    go_wp2_with fail
    refine (HC.out _ HI3.out).mono ?_
    rintro e w1 ⟨rfl, rfl⟩
    go_wp2_with fail
    go_ret
    exact ⟨by rw [HE.out]; rfl, HB.out⟩
  rw [hc] at HC
  have HCc := Lib.hid hc
  clear hc
  by_cases h3 : 12 < m.ps.length
  case pos =>
    have HE := Lib.hid (heavyM_len (m := m) (by omega))
    go_enter Tryz.func30, Tryz.ntmps30
    go_wp2_with fail
    refine (HC.out _ HI3.out).mono ?_
    rintro e w1 ⟨rfl, rfl⟩
    go_wp2_with fail
    go_ret
    exact ⟨by rw [HE.out]; rfl, HB.out⟩
  have h3' : m.ps.length ≤ 12 := by omega
  have HBl := Lib.hid (Blk.new w 38 #[.int .i64 m.kd, .int .i64 m.fr, .int .i64 m.vw, .int .i64 m.ins, .int .i64 m.sq, .int .i64 m.rs, .slice A1 m.bt.length c1, .slice A2 m.vs.length c2, .slice A3 m.cs.length c3, .slice A4 m.ps.length c4])
  clear h3
  go_enter Tryz.func30, Tryz.ntmps30
  go_wp2_with fail
  refine (HC.out _ HI3.out).mono ?_
  rintro e w1 ⟨rfl, rfl⟩
  go_wp2_with fail
  obtain ⟨w1, hw1⟩ : ∃ w1, (w.alloc (.cells #[.int .i64 m.kd, .int .i64 m.fr, .int .i64 m.vw, .int .i64 m.ins, .int .i64 m.sq, .int .i64 m.rs, .slice A1 m.bt.length c1, .slice A2 m.vs.length c2, .slice A3 m.cs.length c3, .slice A4 m.ps.length c4] 38)) = w1 := ⟨_, rfl⟩
  rw [hw1] at HB HI HBl ⊢
  have c9 : w1.cell? ⟨w.heap.size, 9, none⟩ = some (.slice A4 m.ps.length c4) := HBl.out.cell 9
  clear hw1 HC HI3
  go_loop [3] (fun v => ∃ k : Nat, v = .int .i64 k ∧ k ≤ m.ps.length ∧ Hid ((m.ps.take k).all lightP = true)) (fun v => m.ps.length - (intOf v).toNat)
  case atStart => exact ⟨0, rfl, Nat.zero_le _, rfl⟩
  case round =>
    obtain ⟨k, rfl, hk, HT⟩ := hrel
    by_cases hlt : k < m.ps.length
    · obtain ⟨ad, y, rfl, _, hy, iy, e0, e1, e2, e3⟩ := HI.out.at hlt
      have HY := Lib.hid hy
      have HIy := Lib.hid (iy.cs)
      clear hy iy
      by_cases h4 : 30 < y.p.vs.length
      · have HE := Lib.hid (heavyM_part hlt (by rw [← HY.out]; simp [lightP]; omega))
        go_wp2_with fail
        go_ret
        exact ⟨by rw [HE.out]; rfl, HB.out⟩
      · have h4' : y.p.vs.length ≤ 30 := by omega
        clear h4
        have HC2 := Lib.hid (fun w h => heavy_certs y.A2 y.c2 y.p.cs (B := w.heap.size) w h)
        have HI2 := Lib.hid (HIy.out.reads (Reads.more HB.out.size))
        cases hc2 : heavyC y.p.cs
        · rw [hc2] at HC2
          have HE := Lib.hid (show (m.ps.take (k + 1)).all lightP = true by rw [all_next (List.getElem?_eq_getElem hlt), HT.out, ← HY.out]; simp [lightP, hc2, h4'])
          clear hc2
          go_wp2_with fail
          refine (HC2.out _ HI2.out).mono ?_
          rintro e w2 ⟨rfl, rfl⟩
          go_wp2_with fail
          go_round
          case rel => exact ⟨k + 1, by go_num, by omega, HE.out⟩
          case measure => simp [intOf]; omega
        · rw [hc2] at HC2
          have HE := Lib.hid (heavyM_part hlt (by rw [← HY.out]; simp [lightP, hc2]))
          clear hc2
          go_wp2_with fail
          refine (HC2.out _ HI2.out).mono ?_
          rintro e w2 ⟨rfl, rfl⟩
          go_wp2_with fail
          go_ret
          exact ⟨by rw [HE.out]; rfl, HB.out⟩
    · have HE := Lib.hid (heavyM_no ⟨h1', h2', h3'⟩ HCc.out (by rw [← show k = m.ps.length by omega]; exact HT.out))
      go_wp2_with fail
      go_ret
      exact ⟨by rw [HE.out]; rfl, HB.out⟩
theorem heavy_msg (x : Ms) (w : World) (h : x.In w w.heap.size) :
    Calls Tryz.prog 30 #[.agg #[.int .i64 x.m.kd, .int .i64 x.m.fr, .int .i64 x.m.vw, .int .i64 x.m.ins, .int .i64 x.m.sq, .int .i64 x.m.rs, .slice x.A1 x.m.bt.length x.c1, .slice x.A2 x.m.vs.length x.c2, .slice x.A3 x.m.cs.length x.c3, .slice x.A4 x.m.ps.length x.c4]] w fun e w' => e = .returned (.bool (heavyM x.m)) ∧ Below w.heap.size w w' := heavy_un x.m x.A1 x.A2 x.A3 x.A4 x.c1 x.c2 x.c3 x.c4 w h
end Go.Proofs.YtbegjadohamkkaaGreat
