/- The walk of InstLeaves: it returns true for any int and ints. -/
import Derived.Test.YtpdmflhbmimhgaaInstOne
namespace Go.Proofs.Ytpdmflhbmimhgaa
open Go.RowKit
set_option linter.unusedSimpArgs false

def vZ : Vo := ⟨true, 1, [wk14]⟩
def vS (n i i' : Nat) : Sx := ⟨some [wk14], fillV i n vZ, fillV i' n vZ⟩
theorem v_v4 {n i : Nat} (h : i < n) : (vS n i i).vote 4 (i : Int) 1 [wk14] = (true, vS n (i + 1) i) := by
  unfold Sx.vote vS
  rw [if_pos rfl]
  have := fillV_vote h (z := vZ) rfl
  simp only [show vZ.sg = 1 from rfl, show vZ.bt = [wk14] from rfl] at this
  simp only [this]
theorem v_v5 {n i : Nat} (h : i < n) : (vS n (i + 1) i).vote 5 (i : Int) 1 [wk14] = (true, vS n (i + 1) (i + 1)) := by
  unfold Sx.vote vS
  rw [if_neg (by omega), if_pos rfl]
  have := fillV_vote h (z := vZ) rfl
  simp only [show vZ.sg = 1 from rfl, show vZ.bt = [wk14] from rfl] at this
  simp only [this]
theorem v_prep {n q : Nat} : ∃ v, (vS n q q).prep q = some v ∧ v.length = q := decS_full (n := n) (q := q) (z := vZ) rfl (Nat.le_refl _)
theorem v_com {n q : Nat} (h0 : 0 < q) (hn : n < 2 * q) (hi : q ≤ n) : ∃ v, (vS n q q).com q = some ([wk14], v) ∧ v.length = q := comS_full (z := vZ) rfl (Nat.le_refl q) h0 hn hi
/-- Slot 1 is S, with what outlasts a view; nothing is in the others. -/
def lX (f vw : Int) (on : Bool) (n : Nat) (S : Sx) (pr co : Option Ct) : Ix := ⟨f, 0, 4, vw, on, (List.replicate 16 ⟨Sx.new n, none, none⟩).set 0 ⟨S, pr, co⟩⟩
theorem lX_new (f : Int) (n : Nat) : Ix.new f 0 4 n = lX f 0 true n (Sx.new n) none none := rfl
theorem lX_gone (f vw v : Int) (on : Bool) (n : Nat) (S : Sx) (pr co : Option Ct) : (lX f vw on n S pr co).gone n v 16 = lX f v false n (Sx.new n) pr co := rfl
theorem lX_inst (f vw : Int) (n : Nat) (pr co : Option Ct) (A : Option Addr) (c : Nat) : (lX f vw false n (Sx.new n) pr co).inst [⟨[wk14], A, c⟩] 1 = lX f vw true n (vS n 0 0) pr co := rfl
theorem lX_next0 (f vw : Int) (on : Bool) (n : Nat) (pr co : Option Ct) : nextAt (lX f vw on n (Sx.new n) pr co).L 16 = 1 := rfl
theorem lX_next1 (f vw : Int) (on : Bool) (n : Nat) (pr co : Option Ct) : nextAt (lX f vw on n (vS n 0 0) pr co).L 16 = 2 := rfl
theorem lX_done (f vw : Int) (on : Bool) (n : Nat) (S : Sx) (pr : Option Ct) (c : Ct) : doneL (lX f vw on n S pr (some c)).L = 1 := rfl
theorem lX_certs (f vw : Int) (on : Bool) (n : Nat) (S : Sx) (co : Option Ct) (c : Ct) : certsL (lX f vw on n S (some c) co).L = [c] := rfl
set_option maxRecDepth 100000 in
set_option maxHeartbeats 16000000 in
theorem instLeaves_walk (a0 : Int) (A : Option Addr) (c : Nat) (zs : List Int) (w : World) (w0 : (Lit.int .i64 a0).wf = true) (w1 : IsList .i64 w A zs c) :
    Calls Try.prog 10 #[.int .i64 a0, .slice A zs.length c] w fun e w' => e = .returned (.bool true) ∧ Below w.heap.size w w' := by
  obtain ⟨b0, b1⟩ := wf_i64 w0
  have HW4 := Lib.hid (fun w => within_any a0 4 (by omega) (by omega) b0 b1 w)
  obtain ⟨p, hp⟩ : ∃ p : Nat, a0 % 4 = p := ⟨(a0 % 4).toNat, by omega⟩
  rw [hp] at HW4
  have q0 : (p : Int) < 4 := by omega
  obtain ⟨q, hq⟩ : ∃ q : Nat, (q : Int) = 2 * (1 + (p : Int)) + 1 := ⟨2 * p + 3, by omega⟩
  obtain ⟨n, hn⟩ : ∃ n : Nat, (n : Int) = 3 * (1 + (p : Int)) + 1 := ⟨3 * p + 4, by omega⟩
  have HQ := Lib.hid (fun (w : World) => (show Calls Try.prog 34 #[.int .i64 (1 + p)] w fun e w' => e = .returned (.int .i64 (q : Int)) ∧ w = w' from by
    have := rquorum_any (1 + p) w
    rwa [quorumS_in (by omega) (by omega), ← hq] at this))
  have HQn := Lib.hid (show q ≤ n ∧ n < 2 * q ∧ 0 < q ∧ q ≤ 9 from ⟨by omega, by omega, by omega, by omega⟩)
  have HNew := Lib.hid (fun w => r_new (f := 1 + (p : Int)) (num := 0) (ah := 4) (n := n) (by omega) (by omega) (by omega) (by omega) (by omega) (by omega) hn w w (Below.refl _ _))
  rw [lX_new] at HNew
  have HQq := Lib.hid hq
  have HNn := Lib.hid hn
  have HL := Lib.hid w1
  obtain ⟨m0, hm0⟩ : ∃ m, zs.length = m := ⟨_, rfl⟩
  have HN := Lib.hid hm0
  have HMx := Lib.hid (show m0 ≤ maxLen by rw [← hm0]; exact Nat.le_trans HL.out.le HL.out.most)
  simp only [hm0]
  clear w0 w1 b0 b1 hp hq hn hm0
  go_enter Try.func10, Try.ntmps10
  go_wp2_with fail
  refine (HW4.out _).mono ?_
  rintro e wa ⟨rfl, rfl⟩
  go_wp2_with fail
  refine (HNew.out _).mono ?_
  rintro e w1 ⟨ib, rfl, hR, -⟩
  have HB1 := Lib.hid (show Blk (w1.alloc (.cells #[.int .i64 0, .int .i64 1, .int .i64 0, .int .i64 0, .int .i64 0, .int .i64 0] 41)) w1.heap.size 41 (rqCells wk14) from Blk.new w1 _ _)
  have HR1 := Lib.hid (hR.below (wz := w1.alloc (.cells #[.int .i64 0, .int .i64 1, .int .i64 0, .int .i64 0, .int .i64 0, .int .i64 0] 41)) ((Below.refl _ _).alloc (Nat.le_refl _) _))
  obtain ⟨g2, hg2⟩ : ∃ y, w1.heap.size = y := ⟨_, rfl⟩
  rw [hg2] at HB1
  have HG2 := Lib.hid hg2
  have HP := Lib.hid (r_pre (k := 0) (p := ⟨Sx.new n, none, none⟩) (c := 1) HR1.out rfl rfl (by show ((0 : Nat) : Int) + 1 ≤ ((_ : Nat) : Int) + 4; omega) (has_one wk14 HB1.out) (n := 1) rfl (by omega))
  clear hR hg2
  go_wp2_with fail
  rw [HG2.out]
  refine HP.out.mono ?_
  rintro e w2 ⟨rfl, hr, hkp⟩
  have HR2 := Lib.hid (show Ri w ib (lX (1 + (p : Int)) 0 true n (vS n 0 0) none none) w2 from hr)
  have HB2 := Lib.hid (hkp.blk HB1.out (by decide) (by decide) (by decide))
  clear hr hkp HP HR1 HB1 HG2
  go_wp2_with fail
  go_loopw [8] (fun y wr => ∃ i : Nat, y = .int .i64 i ∧ i ≤ q ∧ Hid (Ri w ib (lX (1 + (p : Int)) 0 true n (vS n i i) none none) wr) ∧ Hid (Blk wr g2 41 (rqCells wk14))) (fun y _ => q - (intOf y).toNat)
  case atStart => exact ⟨0, rfl, Nat.zero_le _, HR2, HB2⟩
  case round =>
    clear HR2 HB2
    obtain ⟨i, rfl, hi, HR, HB⟩ := hrel
    by_cases hlq : i < q
    · have hlqi : (i : Int) < (q : Int) := by omega
      have hin : i < n := by have := HQn.out.1; omega
      have hi9 : (i : Int) < 9 := by have := HQn.out.2.2.2; omega
      have HV := Lib.hid (r_vote (k := 0) (p := ⟨vS n i i, none, none⟩) (c := 1) HR.out rfl rfl 4 i 1 (has_one wk14 HB.out) (n := 1) rfl (by omega))
      simp only [v_v4 hin] at HV
      go_wp2_with fail
      refine (HQ.out _).mono ?_
      rintro e wq ⟨rfl, rfl⟩
      go_wp2_with fail
      refine HV.out.mono ?_
      rintro e w3 ⟨rfl, hr, hkp⟩
      have HR3 := Lib.hid (show Ri w ib (lX (1 + (p : Int)) 0 true n (vS n (i + 1) i) none none) w3 from hr)
      have HB3 := Lib.hid (hkp.blk HB.out (by decide) (by decide) (by decide))
      clear hr hkp HV HR HB
      have HV := Lib.hid (r_vote (k := 0) (p := ⟨vS n (i + 1) i, none, none⟩) (c := 1) HR3.out rfl rfl 5 i 1 (has_one wk14 HB3.out) (n := 1) rfl (by omega))
      simp only [v_v5 hin] at HV
      go_wp2_with fail
      refine HV.out.mono ?_
      rintro e w4 ⟨rfl, hr, hkp⟩
      have HR4 := Lib.hid (show Ri w ib (lX (1 + (p : Int)) 0 true n (vS n (i + 1) (i + 1)) none none) w4 from hr)
      have HB4 := Lib.hid (hkp.blk HB3.out (by decide) (by decide) (by decide))
      clear hr hkp HV HR3 HB3
      go_wp2_with fail
      go_roundw
      case rel => exact ⟨i + 1, by go_num, by omega, HR4, HB4⟩
      case measure => simp [intOf]; omega
    · obtain rfl : i = q := by omega
      obtain ⟨pv, hpr, hpl⟩ := v_prep (n := n) (q := i)
      obtain ⟨cv, hco, hcl⟩ := v_com (n := n) (q := i) HQn.out.2.2.1 HQn.out.2.1 HQn.out.1
      have hi9 : i ≤ 9 := HQn.out.2.2.2
      have HPl := Lib.hid (show pv.length ≤ 9 ∧ cv.length ≤ 9 from ⟨by omega, by omega⟩)
      have HCo := Lib.hid hco
      have HPy := Lib.hid (r_prepared (k := 0) (p := ⟨vS n i i, none, none⟩) HR.out rfl rfl (fun c h => by cases h) HQq.out hpr rfl)
      have hnl : ¬ (i : Int) < (i : Int) := by omega
      clear hlq hpr hpl hco hcl
      go_wp2_with fail
      refine (HQ.out _).mono ?_
      rintro e wq ⟨rfl, rfl⟩
      go_wp2_with fail
      refine HPy.out.mono ?_
      rintro e w5 ⟨A5, d5, B5, e5, rfl, -, hr, hkp⟩
      have HR5 := Lib.hid (show Ri w ib (lX (1 + (p : Int)) 0 true n (vS n i i) (some ⟨0, 0, 1, [wk14], pv⟩) none) w5 from hr)
      have HB5 := Lib.hid (hkp.blk HB.out (by decide) (by decide) (by decide))
      clear hr hkp HPy HR HB
      have HCy := Lib.hid (r_commits (k := 0) (p := ⟨vS n i i, some ⟨0, 0, 1, [wk14], pv⟩, none⟩) HR5.out rfl rfl rfl HQq.out HCo.out)
      go_wp2_with fail
      refine HCy.out.mono ?_
      rintro e w6 ⟨A6, d6, B6, e6, rfl, -, hr, hkp⟩
      have HR6 := Lib.hid (show Ri w ib (lX (1 + (p : Int)) 0 true n (vS n i i) (some ⟨0, 0, 1, [wk14], pv⟩) (some ⟨0, 0, 1, [wk14], cv⟩)) w6 from hr)
      have HB6 := Lib.hid (hkp.blk HB5.out (by decide) (by decide) (by decide))
      clear hr hkp HCy HR5 HB5
      have HCt := Lib.hid (r_certs HR6.out)
      rw [lX_certs] at HCt
      go_wp2_with fail
      refine HCt.out.mono ?_
      rintro e w7 ⟨u, rfl, hrow, hb7⟩
      have hMl := hrow
      obtain ⟨M, hM1, hM2, -⟩ := hMl
      have hM : M.length = 1 := by
        have := congrArg List.length hM1
        simpa using this
      rw [hM] at hM2
      obtain ⟨A8, d8, rfl, -, -⟩ := own_slice hM2
      have HR7 := Lib.hid (HR6.out.below hb7)
      have HB7 := Lib.hid (HB6.out.below hb7 HB6.out.lt)
      have HT7 := Lib.hid (show ∃ b, CtRow w7 b (.slice A8 1 d8) [⟨0, 0, 1, [wk14], pv⟩] from ⟨_, hrow⟩)
      clear hM1 hM2 hM hrow hb7 HCt HR6 HB6
      go_wp2_with fail
      go_loopw [10, 11] (fun x y wr => ∃ (t : Nat) (vw : Int) (S : Sx) (on : Bool), y = .int .i64 t ∧ x = .int .i64 vw ∧ t ≤ m0 ∧ t ≤ 30 ∧ Hid (Ri w ib (lX (1 + (p : Int)) vw on n S (some ⟨0, 0, 1, [wk14], pv⟩) (some ⟨0, 0, 1, [wk14], cv⟩)) wr) ∧ Hid (Blk wr g2 41 (rqCells wk14)) ∧ Hid (∃ b, CtRow wr b (.slice A8 1 d8) [⟨0, 0, 1, [wk14], pv⟩])) (fun _ y _ => m0 - (intOf y).toNat)
      case atStart => exact ⟨0, 0, vS n i i, true, rfl, rfl, Nat.zero_le _, Nat.zero_le _, HR7, HB7, HT7⟩
      case round =>
        clear HR7 HB7 HT7
        obtain ⟨t, vw, S, on, rfl, rfl, ht, ht30, HR, HB, HT⟩ := hrel
        have hvw := HR.out.vw
        change 0 ≤ vw ∧ vw ≤ 12 at hvw
        by_cases hlt : t < m0 ∧ t < 30
        · obtain ⟨hlt1, hlt2⟩ := hlt
          have hlti : (t : Int) < (m0 : Int) := by omega
          have hlti2 : (t : Int) < 30 := by omega
          obtain ⟨ad, z1, rfl, hab, hc1, hd1, hzm1⟩ := (HL.out.has.below HR.out.low (Nat.le_refl _)).int (show t < zs.length by rw [HN.out]; exact hlt1)
          obtain ⟨y1, y2⟩ := wf_i64 (HL.out.fits z1 hzm1)
          have HW1 := Lib.hid (fun (w : World) => within_any z1 15 (by omega) (by omega) y1 y2 w)
          obtain ⟨s, hs⟩ : ∃ s, z1 % 15 = s := ⟨_, rfl⟩
          have hs15 : 0 ≤ s ∧ s < 15 := by omega
          rw [hs] at HW1
          clear hs y1 y2 hzm1 hd1 hab
          by_cases hmay : vw < s - 1 ∧ s - 1 ≤ 12
          · obtain ⟨hm1, hm2⟩ := hmay
            have HLv := Lib.hid (r_leave HR.out (v := s - 1) hm1 hm2 (n := n) HNn.out)
            simp only [lX_gone] at HLv
            go_wp2_with fail
            refine (HW1.out _).mono ?_
            rintro e wq ⟨rfl, rfl⟩
            clear hc1
            go_wp2_with fail
            refine HLv.out.mono ?_
            rintro e w8 ⟨rfl, hr, hkp⟩
            obtain ⟨u, hu⟩ : ∃ u, s - 1 = u := ⟨_, rfl⟩
            rw [hu] at hr ⊢
            have HR8 := Lib.hid hr
            have HB8 := Lib.hid (hkp.blk HB.out (by decide) (by decide) (by decide))
            have HT8 := Lib.hid (show ∃ b, CtRow w8 b (.slice A8 1 d8) [⟨0, 0, 1, [wk14], pv⟩] from by
              obtain ⟨b, hb⟩ := HT.out
              exact ⟨b, hkp.ctRow hb⟩)
            clear hr hkp HLv HR HB HT hm1 hm2 hu HW1
            have HNx := Lib.hid (r_next HR8.out)
            rw [lX_next0] at HNx
            go_wp2_with fail
            refine (r_installed HR8.out).mono ?_
            rintro e wq ⟨rfl, rfl⟩
            go_wp2_with fail
            refine HNx.out.mono ?_
            rintro e w9 ⟨rfl, hb9⟩
            have HR9 := Lib.hid (HR8.out.below hb9)
            have HB9 := Lib.hid (HB8.out.below hb9 HB8.out.lt)
            have HT9 := Lib.hid (show ∃ b, CtRow w9 b (.slice A8 1 d8) [⟨0, 0, 1, [wk14], pv⟩] from by
              obtain ⟨b, hb⟩ := HT8.out
              exact ⟨b, hb.below hb9⟩)
            clear hb9 HNx HR8 HB8 HT8
            go_wp2_with fail
            refine (r_vote_no HR9.out (sq := 1) (Or.inl rfl) 4 0 1 (some ⟨g2, 0, none⟩) 1 1).mono ?_
            rintro e wq ⟨rfl, rfl⟩
            go_wp2_with fail
            refine (r_pre_no HR9.out (sq := 2) (Or.inl rfl) (some ⟨g2, 0, none⟩) 1 1).mono ?_
            rintro e w10 ⟨rfl, hb10⟩
            have HR10 := Lib.hid (HR9.out.below hb10)
            have HB10 := Lib.hid (HB9.out.below hb10 HB9.out.lt)
            have HT10 := Lib.hid (show ∃ b, CtRow w10 b (.slice A8 1 d8) [⟨0, 0, 1, [wk14], pv⟩] from by
              obtain ⟨b, hb⟩ := HT9.out
              exact ⟨b, hb.below hb10⟩)
            clear hb10 HR9 HB9 HT9
            by_cases hpar : t % 2 = 0
            · have hmod : (t : Int).tmod 2 = 0 := by
                rw [Int.tmod_eq_emod_of_nonneg (by omega)]
                omega
              have HS11 := Lib.hid (Blk.new w10 28 #[.slice (some ⟨g2, 0, none⟩) 1 1])
              have HB11 := Lib.hid (HB10.out.alloc (.cells #[.slice (some ⟨g2, 0, none⟩) 1 1] 28))
              have HR11 := Lib.hid (HR10.out.below (wz := w10.alloc (.cells #[.slice (some ⟨g2, 0, none⟩) 1 1] 28)) ((Below.refl _ _).alloc (Nat.le_refl _) _))
              have HT11 := Lib.hid (show ∃ b, CtRow (w10.alloc (.cells #[.slice (some ⟨g2, 0, none⟩) 1 1] 28)) b (.slice A8 1 d8) [⟨0, 0, 1, [wk14], pv⟩] from by
                obtain ⟨b, hb⟩ := HT10.out
                exact ⟨b, hb.below ((Below.refl _ _).alloc (Nat.le_refl _) _)⟩)
              have HIn := Lib.hid (r_install_one HR11.out rfl (r := wk14) HS11.out HB11.out)
              rw [lX_inst] at HIn
              clear hpar HR10 HB10 HT10 HS11
              go_wp2_with fail
              refine HIn.out.mono ?_
              rintro e w12 ⟨rfl, hr, hkp⟩
              have HR12 := Lib.hid hr
              have HB12 := Lib.hid (hkp.blk HB11.out (by decide) (by decide) (by decide))
              have HT12 := Lib.hid (show ∃ b, CtRow w12 b (.slice A8 1 d8) [⟨0, 0, 1, [wk14], pv⟩] from by
                obtain ⟨b, hb⟩ := HT11.out
                exact ⟨b, hkp.ctRow hb⟩)
              clear hr hkp HIn HR11 HB11 HT11
              have HNx := Lib.hid (r_next HR12.out)
              rw [lX_next1] at HNx
              go_wp2_with fail
              refine HNx.out.mono ?_
              rintro e w13 ⟨rfl, hb13⟩
              have HR13 := Lib.hid (HR12.out.below hb13)
              have HB13 := Lib.hid (HB12.out.below hb13 HB12.out.lt)
              have HT13 := Lib.hid (show ∃ b, CtRow w13 b (.slice A8 1 d8) [⟨0, 0, 1, [wk14], pv⟩] from by
                obtain ⟨b, hb⟩ := HT12.out
                exact ⟨b, hb.below hb13⟩)
              clear hb13 HNx HR12 HB12 HT12
              have HPr := Lib.hid (r_pre (k := 0) (p := ⟨vS n 0 0, some ⟨0, 0, 1, [wk14], pv⟩, some ⟨0, 0, 1, [wk14], cv⟩⟩) (c := 1) HR13.out rfl rfl (by show ((0 : Nat) : Int) + 1 ≤ ((_ : Nat) : Int) + 4; omega) (has_one wk14 HB13.out) (n := 1) rfl (by omega))
              go_wp2_with fail
              refine HPr.out.mono ?_
              rintro e w14 ⟨rfl, hr, hkp⟩
              have HR14 := Lib.hid (show Ri w ib (lX (1 + (p : Int)) u true n (vS n 0 0) (some ⟨0, 0, 1, [wk14], pv⟩) (some ⟨0, 0, 1, [wk14], cv⟩)) w14 from hr)
              have HB14 := Lib.hid (hkp.blk HB13.out (by decide) (by decide) (by decide))
              have HT14 := Lib.hid (show ∃ b, CtRow w14 b (.slice A8 1 d8) [⟨0, 0, 1, [wk14], pv⟩] from by
                obtain ⟨b, hb⟩ := HT13.out
                exact ⟨b, hkp.ctRow hb⟩)
              clear hr hkp HPr HR13 HB13 HT13
              go_wp2_with fail
              go_roundw
              case rel => exact ⟨t + 1, u, vS n 0 0, true, by go_num, rfl, by omega, by omega, HR14, HB14, HT14⟩
              case measure => simp [intOf]; omega
            · have hmod : (t : Int).tmod 2 = 1 := by
                rw [Int.tmod_eq_emod_of_nonneg (by omega)]
                omega
              clear hpar
              go_wp2_with fail
              go_roundw
              case rel => exact ⟨t + 1, u, Sx.new n, false, by go_num, rfl, by omega, by omega, HR10, HB10, HT10⟩
              case measure => simp [intOf]; omega
          · have HLn := Lib.hid (r_leave_no HR.out (v := s - 1) (show s - 1 ≤ vw ∨ 12 < s - 1 from by omega))
            by_cases hm1 : vw < s - 1
            · have hm3 : decide (s - 1 ≤ 12) = false := decide_eq_false (by omega)
              clear hmay
              go_wp2_with fail
              refine (HW1.out _).mono ?_
              rintro e wq ⟨rfl, rfl⟩
              clear hc1
              go_wp2_with fail
              refine HLn.out.mono ?_
              rintro e wq ⟨rfl, rfl⟩
              go_wp2_with fail
              go_roundw
              case rel => exact ⟨t + 1, vw, S, on, by go_num, rfl, by omega, by omega, HR, HB, HT⟩
              case measure => simp [intOf]; omega
            · clear hmay
              go_wp2_with fail
              refine (HW1.out _).mono ?_
              rintro e wq ⟨rfl, rfl⟩
              clear hc1
              go_wp2_with fail
              refine HLn.out.mono ?_
              rintro e wq ⟨rfl, rfl⟩
              go_wp2_with fail
              go_roundw
              case rel => exact ⟨t + 1, vw, S, on, by go_num, rfl, by omega, by omega, HR, HB, HT⟩
              case measure => simp [intOf]; omega
        · have HVw := Lib.hid (r_view HR.out)
          have HDn := Lib.hid (r_done HR.out)
          rw [lX_done] at HDn
          have HCt := Lib.hid (r_certs HR.out)
          rw [lX_certs] at HCt
          have hgo : (¬ (t : Int) < (m0 : Int)) ∨ ((t : Int) < (m0 : Int) ∧ ¬ (t : Int) < 30) := by omega
          rcases hgo with g1 | ⟨g1, g2'⟩
          · clear hlt
            go_wp2_with fail
            refine HVw.out.mono ?_
            rintro e wq ⟨rfl, rfl⟩
            go_wp2_with fail
            refine HDn.out.mono ?_
            rintro e wq ⟨rfl, rfl⟩
            go_wp2_with fail
            refine HCt.out.mono ?_
            rintro e w8 ⟨u, rfl, hrow, hb8⟩
            have hMl := hrow
            obtain ⟨M, hM1, hM2, -⟩ := hMl
            have hM : M.length = 1 := by
              have := congrArg List.length hM1
              simpa using this
            rw [hM] at hM2
            obtain ⟨A9, d9, rfl, -, -⟩ := own_slice hM2
            have HR8 := Lib.hid (HR.out.below hb8)
            have HSm := Lib.hid (same_certs_is (A := A9) (A' := A8) (c := d9) (c' := d8) (la := 1) (lb := 1) (zs := [⟨0, 0, 1, [wk14], pv⟩]) (ys := [⟨0, 0, 1, [wk14], pv⟩]) (r := true) rfl rfl (by omega) (sameL_self' _) (fun x hx => by
              obtain rfl : x = _ := by simpa using hx
              have h9 := HPl.out.1
              exact ⟨by show (1 : Nat) ≤ 9223372036854775806; omega, by show pv.length ≤ 9223372036854775806; omega⟩) w8 (Nat.le_refl _) (hrow.hasCerts rfl) (by
              obtain ⟨b, hb⟩ := HT.out
              exact (hb.below hb8).hasCerts rfl))
            clear hM1 hM2 hM hrow hb8 HCt
            go_wp2_with fail
            refine HSm.out.mono ?_
            rintro e w9 ⟨rfl, hb9⟩
            have HR9 := Lib.hid (HR8.out.below hb9)
            clear hb9 HSm
            go_wp2_with fail
            refine (wakes15_any _).mono ?_
            rintro e w10 ⟨rfl, hb10⟩
            go_wp2_with fail
            go_ret
            exact ⟨rfl, HR9.out.low.trans (hb10.mono HR9.out.low.size)⟩
          · clear hlt
            go_wp2_with fail
            refine HVw.out.mono ?_
            rintro e wq ⟨rfl, rfl⟩
            go_wp2_with fail
            refine HDn.out.mono ?_
            rintro e wq ⟨rfl, rfl⟩
            go_wp2_with fail
            refine HCt.out.mono ?_
            rintro e w8 ⟨u, rfl, hrow, hb8⟩
            have hMl := hrow
            obtain ⟨M, hM1, hM2, -⟩ := hMl
            have hM : M.length = 1 := by
              have := congrArg List.length hM1
              simpa using this
            rw [hM] at hM2
            obtain ⟨A9, d9, rfl, -, -⟩ := own_slice hM2
            have HR8 := Lib.hid (HR.out.below hb8)
            have HSm := Lib.hid (same_certs_is (A := A9) (A' := A8) (c := d9) (c' := d8) (la := 1) (lb := 1) (zs := [⟨0, 0, 1, [wk14], pv⟩]) (ys := [⟨0, 0, 1, [wk14], pv⟩]) (r := true) rfl rfl (by omega) (sameL_self' _) (fun x hx => by
              obtain rfl : x = _ := by simpa using hx
              have h9 := HPl.out.1
              exact ⟨by show (1 : Nat) ≤ 9223372036854775806; omega, by show pv.length ≤ 9223372036854775806; omega⟩) w8 (Nat.le_refl _) (hrow.hasCerts rfl) (by
              obtain ⟨b, hb⟩ := HT.out
              exact (hb.below hb8).hasCerts rfl))
            clear hM1 hM2 hM hrow hb8 HCt
            go_wp2_with fail
            refine HSm.out.mono ?_
            rintro e w9 ⟨rfl, hb9⟩
            have HR9 := Lib.hid (HR8.out.below hb9)
            clear hb9 HSm
            go_wp2_with fail
            refine (wakes15_any _).mono ?_
            rintro e w10 ⟨rfl, hb10⟩
            go_wp2_with fail
            go_ret
            exact ⟨rfl, HR9.out.low.trans (hb10.mono HR9.out.low.size)⟩
end Go.Proofs.Ytpdmflhbmimhgaa
