/- The walk of ChangeOrders: it returns true for any ints and any order. -/
import Derived.Test.YtfbipebijelfjaaOrd16
namespace Go.Proofs.Ytfbipebijelfjaa
open Go.RowKit
set_option linter.unusedSimpArgs false

set_option maxRecDepth 100000 in
set_option maxHeartbeats 4000000 in
theorem changeOrders_walk (a0 a1 : Int) (A : Option Addr) (c2 : Nat) (l : List Int) (w : World) (w0 : (Lit.int .i64 a0).wf = true) (w1 : (Lit.int .i64 a1).wf = true) (w2 : IsList .i64 w A l c2) :
    Calls Try.prog 3 #[.int .i64 a0, .int .i64 a1, .slice A l.length c2] w fun e w' => e = .returned (.bool true) ∧ Below w.heap.size w w' := by
  obtain ⟨b0, b1⟩ := wf_i64 w0
  obtain ⟨d0, d1⟩ := wf_i64 w1
  have HW4 := Lib.hid (fun w => within_any a0 4 (by omega) (by omega) b0 b1 w)
  have HW12 := Lib.hid (fun w => within_any a1 12 (by omega) (by omega) d0 d1 w)
  have hf1 : 0 ≤ a0 % 4 ∧ a0 % 4 < 4 := ⟨Int.emod_nonneg _ (by omega), Int.emod_lt_of_pos _ (by omega)⟩
  obtain ⟨p, hp⟩ : ∃ p : Nat, a0 % 4 = p := ⟨(a0 % 4).toNat, by omega⟩
  obtain ⟨v, hv⟩ : ∃ v : Nat, a1 % 12 = v := ⟨(a1 % 12).toNat, by omega⟩
  have hv12 : v < 12 := by omega
  rw [hp] at HW4 hf1
  rw [hv] at HW12
  obtain ⟨q, hq⟩ : ∃ q : Nat, (q : Int) = 2 * (1 + (p : Int)) + 1 := ⟨2 * p + 3, by omega⟩
  obtain ⟨n, hn⟩ : ∃ n : Nat, (n : Int) = 3 * (1 + (p : Int)) + 1 := ⟨3 * p + 4, by omega⟩
  have hn13 : n ≤ 13 := by omega
  have hn1 : 1 ≤ n := by omega
  have hq0 : 0 < q := by omega
  have hqn : q ≤ n := by omega
  have HN := Lib.hid (fun (w : World) => (show Calls Try.prog 9 #[.int .i64 (1 + p)] w fun e w' => e = .returned (.int .i64 (n : Int)) ∧ w = w' from by
    have := rnodes_any (1 + p) w
    rwa [nodesS_in (by omega) (by omega), ← hn] at this))
  have HQ := Lib.hid (fun (w : World) => (show Calls Try.prog 12 #[.int .i64 (1 + p)] w fun e w' => e = .returned (.int .i64 (q : Int)) ∧ w = w' from by
    have := rquorum_any (1 + p) w
    rwa [quorumS_in (by omega) (by omega), ← hq] at this))
  have HWn := Lib.hid (fun (x : Int) (hx : fit x) (w : World) => within_any x n (by omega) (by omega) (wf_i64 hx).1 (wf_i64 hx).2 w)
  have HNew := Lib.hid (fun w => rv_new (f := 1 + (p : Int)) (n := n) (by omega) (by omega) hn w w (Below.refl _ _))
  have HQq := Lib.hid hq
  have HNs := Lib.hid (And.intro hn13 (And.intro hn1 (And.intro hq0 (And.intro hqn hv12))))
  have HA := Lib.hid w2.has
  have HF := Lib.hid w2.fits
  obtain ⟨m, hm⟩ : ∃ m, l.length = m := ⟨_, rfl⟩
  rw [hm]
  have HM := Lib.hid hm
  have HMx := Lib.hid (show m ≤ maxLen by rw [← hm]; exact Nat.le_trans w2.le w2.most)
  clear w0 w1 w2 b0 b1 d0 d1 hp hv hn hn1 hm hn13 hq hq0 hqn hv12
  go_enter Try.func3, Try.ntmps3
  go_wp2_with fail
  refine (HW4.out _).mono ?_
  rintro e wa ⟨rfl, rfl⟩
  go_wp2_with fail
  refine (HW12.out _).mono ?_
  rintro e wa ⟨rfl, rfl⟩
  go_wp2_with fail
  refine (HNew.out _).mono ?_
  rintro e w1 ⟨vb, g, c, rfl, hR, -, -, -⟩
  have HR := Lib.hid hR
  clear hR
  go_wp2_with fail
  refine (HN.out _).mono ?_
  rintro e wa ⟨rfl, rfl⟩
  have HO := Lib.hid (show Os16 w w1.heap.size vb g c (1 + (p : Int)) (v : Int) n (List.replicate 13 false) (List.replicate n none) (w1.alloc (.cells #[.bool false, .bool false, .bool false, .bool false, .bool false, .bool false, .bool false, .bool false, .bool false, .bool false, .bool false, .bool false, .bool false] 29)) from
    ⟨HR.out.below ((Below.refl _ _).alloc (Nat.le_refl _) _), Blk.new _ _ _, HR.out.low.size, Or16.new _ HNs.out.1⟩)
  obtain ⟨hb, hhb⟩ : ∃ y, w1.heap.size = y := ⟨_, rfl⟩
  have HNum0 := Lib.hid (show (fC 0 (List.replicate n (none : Cw)) (v : Int)).length = 0 by rw [fC_none (fun x hx => by obtain rfl := List.eq_of_mem_replicate hx; rfl)]; rfl)
  go_wp2_with fail
  rw [hhb] at HO
  clear hhb HR
  go_loopw [11, 12] (fun y x wr => ∃ (i : Nat) (bs : List Bool) (L : List Cw), x = .int .i64 i ∧ i ≤ m ∧ i ≤ 60 ∧ y = .int .i64 ((fC 0 L (v : Int)).length : Int) ∧ Hid (Os16 w hb vb g c (1 + (p : Int)) (v : Int) n bs L wr)) (fun _ x _ => m - (intOf x).toNat)
  case atStart => exact ⟨0, _, _, rfl, Nat.zero_le _, Nat.zero_le _, by rw [HNum0.out]; rfl, HO⟩
  case round =>
    clear HO HNum0
    obtain ⟨i, bs, L, rfl, hi, hi2, rfl, HO⟩ := hrel
    have HNn := Lib.hid (show (fC 0 L (v : Int)).length ≤ n from by have := fC_le L 0 (v : Int); rw [HO.out.or.len] at this; exact this)
    obtain ⟨num, hnum⟩ : ∃ y, (fC 0 L (v : Int)).length = y := ⟨_, rfl⟩
    have HNum := Lib.hid hnum
    rw [hnum] at HNn ⊢
    clear hnum
    by_cases hlt : i < m ∧ i < 60
    · obtain ⟨hlt1, hlt2⟩ := hlt
      obtain ⟨ad, z, rfl, hab, hz, -, hzm⟩ := (HO.out.rv.has HA.out).int (show i < l.length by rw [HM.out]; exact hlt1)
      have HWz := Lib.hid (HWn.out z (HF.out z hzm))
      obtain ⟨k, hk⟩ : ∃ k : Nat, z % (n : Int) = k := ⟨(z % (n : Int)).toNat, by have := HNs.out.2.1; have := Int.emod_nonneg z (show (n : Int) ≠ 0 by omega); omega⟩
      have hkn : k < n := by have := HNs.out.2.1; have := Int.emod_lt_of_pos z (show (0 : Int) < n by omega); omega
      rw [hk] at HWz
      have HKn := Lib.hid hkn
      have hk13 : (k : Int) < 13 := by have := HNs.out.1; omega
      have h64 : IntKind.i64.wrap (7 + (k : Int)) = 7 + (k : Int) := IntWalk.i64_in _ ⟨by omega, by omega⟩
      obtain ⟨b, hbb⟩ := got (l := bs) (k := k) (by rw [HO.out.or.bl]; have := HNs.out.1; omega)
      have hq1 := HO.out.drewN 1 |>.cell hbb
      have hq0 := HO.out.cell hbb
      have HBb := Lib.hid hbb
      clear hk hkn hzm hab
      cases b with
      | false =>
        obtain ⟨hp1, hp2, hp3⟩ := HO.out.or.put_new (by omega) (by have := HNs.out.2.2.2.2; omega) HKn.out HBb.out
        have HP := Lib.hid (rv_put (HO.out.drewN 1).rv (k : Int) (v : Int) (7 + (k : Int)))
        rw [hp1] at HP
        have HOr := Lib.hid hp2
        have HArr := Lib.hid (fun (w2 : World) (ht : Turn (fun j => j = g) (wr.drewN 1) w2) => (ht.blk (HO.out.drewN 1).arr (HO.out.drewN 1).ne.2))
        have hf3 := hp3
        rw [HNum.out] at hf3
        obtain ⟨L2, hL2⟩ : ∃ y, L.set k (some ((v : Int), 7 + (k : Int))) = y := ⟨_, rfl⟩
        rw [hL2] at HP HOr hf3
        have HNum2 := Lib.hid hf3
        have HMark := Lib.hid (fun (w2 : World) (hR2 : Rv w vb g c (1 + (p : Int)) L2 w2) (ht : Turn (fun j => j = g) (wr.drewN 1) w2) => (HO.out.drewN 1).mark hR2 ht HOr.out)
        clear hp1 hp2 hp3 hf3 hL2
        go_wp2_with fail
        refine (HWz.out _).mono ?_
        rintro e wa ⟨rfl, rfl⟩
        go_wp2_with fail
        go_region_held3 (fun w' => w'.cell? ⟨hb, k, none⟩ = some (.bool false)) (first | exact hq1 | exact hq2 | go_keep) ((go_at_call 10; refine HP.out.mono ?_; rintro e w2 ⟨rfl, hR2, ht2⟩; have hq2 : w2.cell? ⟨hb, k, none⟩ = some (.bool false) := ((HArr.out w2 ht2).cell k).trans (boolCells_get HBb.out)))
        have hfz : w2.frozen? ⟨hb, k, none⟩ = false := (HArr.out w2 ht2).frozen k
        have HO2 := Lib.hid (HMark.out w2 hR2 ht2)
        clear hR2 ht2 hq1 hq0
        obtain ⟨bs2, hbs2⟩ : ∃ y, bs.set k true = y := ⟨_, rfl⟩
        rw [hbs2] at HO2 HOr
        have hn2 := HNn.out
        have hn3 := HNs.out.1
        clear hbs2 HNum HMark HArr
        go_wp2_with fail
        have HE := Lib.hid (rv_enough HO2.out.rv (v : Int) HQq.out)
        have HHb := Lib.hid (fun (wz : World) (hz : Below (w2.setCell ⟨hb, k, none⟩ (.bool true)).heap.size (w2.setCell ⟨hb, k, none⟩ (.bool true)) wz) => HO2.out.below hz)
        clear HO HO2
        cases hr : enC L2 (v : Int) q with
        | none =>
          rw [hr] at HE
          have hlq : num + 1 < q := by
            rcases Nat.lt_or_ge (num + 1) q with h | h
            · exact h
            · unfold enC at hr
              rw [if_pos (by rw [HNum2.out]; exact h)] at hr
              cases hr
          have g1 : decide ((q : Int) ≤ ((num : Int) + 1)) = false := decide_eq_false (by omega)
          have g2 : decide (q ≤ num + 1) = false := decide_eq_false (by omega)
          have g3 : decide ((0 : Int) < (n : Int)) = true := decide_eq_true (by have := HNs.out.2.1; omega)
          have g4 : decide (0 < n) = true := decide_eq_true (by have := HNs.out.2.1; omega)
          clear hlq hr
          go_wp2_with fail
          refine HE.out.mono ?_
          rintro e w3 ⟨A3, c3, rfl, -, hb3, -⟩
          have HO3 := Lib.hid (HHb.out _ hb3)
          clear hb3
          go_wp2_with fail
          refine (HQ.out _).mono ?_
          rintro e wq ⟨rfl, rfl⟩
          go_wp2_with fail
          go_loopw [16, 17] (fun y x wz => x = .int .i64 0 ∧ y = .int .i64 0 ∧ Hid (Os16 w hb vb g c (1 + (p : Int)) (v : Int) n bs2 L2 wz)) (fun _ _ _ => 0)
          case atStart => exact ⟨rfl, rfl, HO3⟩
          case round =>
            clear HO3
            obtain ⟨rfl, rfl, HO3⟩ := hrel
            go_wp2_with fail
            go_roundw
            case rel => exact ⟨i + 1, bs2, L2, by go_num, by omega, by omega, by rw [HNum2.out]; go_num, HO3⟩
            case measure => simp [intOf]; omega
        | some lv =>
          rw [hr] at HE
          have HLv := Lib.hid hr
          have hle := enC_is hr
          have g1 : decide ((q : Int) ≤ ((num : Int) + 1)) = true := decide_eq_true (by have := hle.1; rw [HNum2.out] at this; omega)
          have g2 : decide (q ≤ num + 1) = true := decide_eq_true (by have := hle.1; rw [HNum2.out] at this; omega)
          have HLe := Lib.hid hle
          rw [show (vtsC (some lv)).length = q from hle.2.2] at HE
          clear hr hle
          go_wp2_with fail
          refine HE.out.mono ?_
          rintro e w3 ⟨A3, c3, rfl, ho, hb3, -⟩
          have HO3 := Lib.hid (HHb.out _ hb3)
          have HRow := Lib.hid (show Has w3 w3.heap.size A3 (voteCells lv) from has_rows ho)
          clear hb3 ho
          go_wp2_with fail
          refine (HQ.out _).mono ?_
          rintro e wq ⟨rfl, rfl⟩
          go_wp2_with fail
          go_loopw [16, 17] (fun y x wz => ∃ (k j : Nat), x = .int .i64 k ∧ y = .int .i64 j ∧ k ≤ n ∧ j ≤ q ∧ Hid ((fC 0 (L2.take k) (v : Int)).length = j) ∧ Hid (Os16 w hb vb g c (1 + (p : Int)) (v : Int) n bs2 L2 wz) ∧ Hid (Has wz wz.heap.size A3 (voteCells lv))) (fun _ x _ => n - (intOf x).toNat)
          case atStart => exact ⟨0, 0, rfl, rfl, Nat.zero_le _, Nat.zero_le _, rfl, HO3, HRow⟩
          case round =>
            clear HO3 HRow
            obtain ⟨k, j, rfl, rfl, hk, hj, HC, HO3, HRow⟩ := hrel
            have HNq := HNs.out
            by_cases hkn : k < n
            · by_cases hjq : j < q
              · obtain ⟨b, hbb⟩ := got (l := bs2) (k := k) (by rw [HO3.out.or.bl]; have := HNq.1; omega)
                have hc := HO3.out.cell hbb
                have hk13 : (k : Int) < 13 := by have := HNq.1; omega
                cases b with
                | false =>
                  have HC2 := Lib.hid (HO3.out.or.skip hkn HC.out hbb)
                  clear hbb HNq
                  go_wp2_with fail
                  go_roundw
                  case rel => exact ⟨k + 1, j, by go_num, rfl, by omega, by omega, HC2, HO3, HRow⟩
                  case measure => simp [intOf]; omega
                | true =>
                  have hj13 : (j : Int) < 13 := by have := HNq.1; have := HNq.2.2.2.1; omega
                  obtain ⟨hjl, hx, hc2⟩ := HO3.out.or.told HLv.out hkn HC.out hjq hbb
                  obtain ⟨ad3, rfl, -, x0, x1⟩ := vote_at HRow.out hjl
                  rw [hx] at x0 x1
                  have HC2 := Lib.hid hc2
                  have G := fun (w : World) => guard_vote .neq (.tmp 101) (.tmp 105) #[.int .i64 (k : Int), .int .i64 (7 + (k : Int))] #[.int .i64 (k : Int), .int .i64 (7 + (k : Int))] w
                  have E := fun (w : World) => neq_vote (x := ⟨(k : Int), 7 + (k : Int)⟩) (y := ⟨(k : Int), 7 + (k : Int)⟩) (r := false) (by simp) w
                  simp only at x0 x1 E
                  clear hbb HNq hjl hx hc2
                  go_wp2_with fail
                  go_roundw
                  case rel => exact ⟨k + 1, j + 1, by go_num, by go_num, by omega, by omega, HC2, HO3, HRow⟩
                  case measure => simp [intOf]; omega
              · obtain rfl : j = q := by omega
                clear HNq
                go_wp2_with fail
                go_roundw
                case rel => exact ⟨i + 1, bs2, L2, by go_num, by omega, by omega, by rw [HNum2.out]; go_num, HO3⟩
                case measure => simp [intOf]; omega
            · obtain rfl : k = n := by omega
              obtain rfl : j = q := by
                have h1 := HC.out
                rw [List.take_of_length_le (by rw [HO3.out.or.len]; exact Nat.le_refl _)] at h1
                have := HLe.out.1
                omega
              clear HNq
              go_wp2_with fail
              go_roundw
              case rel => exact ⟨i + 1, bs2, L2, by go_num, by omega, by omega, by rw [HNum2.out]; go_num, HO3⟩
              case measure => simp [intOf]; omega
      | true =>
        have hp1 := HO.out.or.put_old HKn.out HBb.out
        have HP := Lib.hid (rv_put (HO.out.drewN 1).rv (k : Int) (v : Int) (7 + (k : Int)))
        rw [hp1] at HP
        have HArr := Lib.hid (fun (w2 : World) (ht : Turn (fun j => j = g) (wr.drewN 1) w2) => (ht.blk (HO.out.drewN 1).arr (HO.out.drewN 1).ne.2))
        have HSame := Lib.hid (fun (w2 : World) (hR2 : Rv w vb g c (1 + (p : Int)) L w2) (ht : Turn (fun j => j = g) (wr.drewN 1) w2) => (HO.out.drewN 1).same hR2 ht)
        clear hp1
        go_wp2_with fail
        refine (HWz.out _).mono ?_
        rintro e wa ⟨rfl, rfl⟩
        go_wp2_with fail
        go_region_held3 (fun w' => w'.cell? ⟨hb, k, none⟩ = some (.bool true)) (first | exact hq1 | exact hq2 | go_keep) ((go_at_call 10; refine HP.out.mono ?_; rintro e w2 ⟨rfl, hR2, ht2⟩; have hq2 : w2.cell? ⟨hb, k, none⟩ = some (.bool true) := ((HArr.out w2 ht2).cell k).trans (boolCells_get HBb.out)))
        have HO2 := Lib.hid (HSame.out w2 hR2 ht2)
        clear hR2 ht2 hq1 hq0
        have hn2 := HNn.out
        have hn3 := HNs.out.1
        clear HArr HSame
        have HE := Lib.hid (rv_enough HO2.out.rv (v : Int) HQq.out)
        have HHb := Lib.hid (fun (wz : World) (hz : Below (w2).heap.size (w2) wz) => HO2.out.below hz)
        clear HO HO2
        cases hr : enC L (v : Int) q with
        | none =>
          rw [hr] at HE
          have hlq : num < q := by
            rcases Nat.lt_or_ge (num) q with h | h
            · exact h
            · unfold enC at hr
              rw [if_pos (by rw [HNum.out]; exact h)] at hr
              cases hr
          have g1 : decide ((q : Int) ≤ (num : Int)) = false := decide_eq_false (by omega)
          have g2 : decide (q ≤ num) = false := decide_eq_false (by omega)
          have g3 : decide ((0 : Int) < (n : Int)) = true := decide_eq_true (by have := HNs.out.2.1; omega)
          have g4 : decide (0 < n) = true := decide_eq_true (by have := HNs.out.2.1; omega)
          clear hlq hr
          go_wp2_with fail
          refine HE.out.mono ?_
          rintro e w3 ⟨A3, c3, rfl, -, hb3, -⟩
          have HO3 := Lib.hid (HHb.out _ hb3)
          clear hb3
          go_wp2_with fail
          refine (HQ.out _).mono ?_
          rintro e wq ⟨rfl, rfl⟩
          go_wp2_with fail
          go_loopw [16, 17] (fun y x wz => x = .int .i64 0 ∧ y = .int .i64 0 ∧ Hid (Os16 w hb vb g c (1 + (p : Int)) (v : Int) n bs L wz)) (fun _ _ _ => 0)
          case atStart => exact ⟨rfl, rfl, HO3⟩
          case round =>
            clear HO3
            obtain ⟨rfl, rfl, HO3⟩ := hrel
            go_wp2_with fail
            go_roundw
            case rel => exact ⟨i + 1, bs, L, by go_num, by omega, by omega, by rw [HNum.out], HO3⟩
            case measure => simp [intOf]; omega
        | some lv =>
          rw [hr] at HE
          have HLv := Lib.hid hr
          have hle := enC_is hr
          have g1 : decide ((q : Int) ≤ (num : Int)) = true := decide_eq_true (by have := hle.1; rw [HNum.out] at this; omega)
          have g2 : decide (q ≤ num) = true := decide_eq_true (by have := hle.1; rw [HNum.out] at this; omega)
          have HLe := Lib.hid hle
          rw [show (vtsC (some lv)).length = q from hle.2.2] at HE
          clear hr hle
          go_wp2_with fail
          refine HE.out.mono ?_
          rintro e w3 ⟨A3, c3, rfl, ho, hb3, -⟩
          have HO3 := Lib.hid (HHb.out _ hb3)
          have HRow := Lib.hid (show Has w3 w3.heap.size A3 (voteCells lv) from has_rows ho)
          clear hb3 ho
          go_wp2_with fail
          refine (HQ.out _).mono ?_
          rintro e wq ⟨rfl, rfl⟩
          go_wp2_with fail
          go_loopw [16, 17] (fun y x wz => ∃ (k j : Nat), x = .int .i64 k ∧ y = .int .i64 j ∧ k ≤ n ∧ j ≤ q ∧ Hid ((fC 0 (L.take k) (v : Int)).length = j) ∧ Hid (Os16 w hb vb g c (1 + (p : Int)) (v : Int) n bs L wz) ∧ Hid (Has wz wz.heap.size A3 (voteCells lv))) (fun _ x _ => n - (intOf x).toNat)
          case atStart => exact ⟨0, 0, rfl, rfl, Nat.zero_le _, Nat.zero_le _, rfl, HO3, HRow⟩
          case round =>
            clear HO3 HRow
            obtain ⟨k, j, rfl, rfl, hk, hj, HC, HO3, HRow⟩ := hrel
            have HNq := HNs.out
            by_cases hkn : k < n
            · by_cases hjq : j < q
              · obtain ⟨b, hbb⟩ := got (l := bs) (k := k) (by rw [HO3.out.or.bl]; have := HNq.1; omega)
                have hc := HO3.out.cell hbb
                have hk13 : (k : Int) < 13 := by have := HNq.1; omega
                cases b with
                | false =>
                  have HC2 := Lib.hid (HO3.out.or.skip hkn HC.out hbb)
                  clear hbb HNq
                  go_wp2_with fail
                  go_roundw
                  case rel => exact ⟨k + 1, j, by go_num, rfl, by omega, by omega, HC2, HO3, HRow⟩
                  case measure => simp [intOf]; omega
                | true =>
                  have hj13 : (j : Int) < 13 := by have := HNq.1; have := HNq.2.2.2.1; omega
                  obtain ⟨hjl, hx, hc2⟩ := HO3.out.or.told HLv.out hkn HC.out hjq hbb
                  obtain ⟨ad3, rfl, -, x0, x1⟩ := vote_at HRow.out hjl
                  rw [hx] at x0 x1
                  have HC2 := Lib.hid hc2
                  have G := fun (w : World) => guard_vote .neq (.tmp 101) (.tmp 105) #[.int .i64 (k : Int), .int .i64 (7 + (k : Int))] #[.int .i64 (k : Int), .int .i64 (7 + (k : Int))] w
                  have E := fun (w : World) => neq_vote (x := ⟨(k : Int), 7 + (k : Int)⟩) (y := ⟨(k : Int), 7 + (k : Int)⟩) (r := false) (by simp) w
                  simp only at x0 x1 E
                  clear hbb HNq hjl hx hc2
                  go_wp2_with fail
                  go_roundw
                  case rel => exact ⟨k + 1, j + 1, by go_num, by go_num, by omega, by omega, HC2, HO3, HRow⟩
                  case measure => simp [intOf]; omega
              · obtain rfl : j = q := by omega
                clear HNq
                go_wp2_with fail
                go_roundw
                case rel => exact ⟨i + 1, bs, L, by go_num, by omega, by omega, by rw [HNum.out], HO3⟩
                case measure => simp [intOf]; omega
            · obtain rfl : k = n := by omega
              obtain rfl : j = q := by
                have h1 := HC.out
                rw [List.take_of_length_le (by rw [HO3.out.or.len]; exact Nat.le_refl _)] at h1
                have := HLe.out.1
                omega
              clear HNq
              go_wp2_with fail
              go_roundw
              case rel => exact ⟨i + 1, bs, L, by go_num, by omega, by omega, by rw [HNum.out], HO3⟩
              case measure => simp [intOf]; omega
    · have hg : (decide ((i : Int) < (m : Int)) && decide ((i : Int) < 60)) = false := by simp; omega
      have HE := Lib.hid (rv_enough HO.out.rv ((v : Int) + 1) HQq.out)
      rw [HO.out.or.other HNs.out.2.2.1] at HE
      have HD1 := Lib.hid (fun (wz : World) (hz : Rv w vb g c (1 + (p : Int)) L wz) => rv_drop hz (v : Int))
      have hd0 := HO.out.or.drop0
      rw [hd0.1, hd0.2] at HD1
      have HD2 := Lib.hid (fun (wz : World) (hz : Rv w vb g c (1 + (p : Int)) L wz) => rv_drop hz ((v : Int) + 1))
      rw [fC_num (i := 0) (fun x hx => HO.out.or.hit hx), HNum.out] at HD2
      have g5 : ((num : Int) == (num : Int)) = true := by simp
      have hv12 := HNs.out.2.2.2.2
      clear hd0
      by_cases hk1 : i < m
      · go_wp2_with fail
        refine HE.out.mono ?_
        rintro e w3 ⟨A3, c3, rfl, -, -, hR3⟩
        have HR3 := Lib.hid hR3
        clear hR3
        go_wp2_with fail
        refine (HD1.out _ HR3.out).mono ?_
        rintro e w4 ⟨rfl, hR4, -⟩
        have HR4 := Lib.hid hR4
        clear hR4
        go_wp2_with fail
        refine (HD2.out _ HR4.out).mono ?_
        rintro e w5 ⟨rfl, hR5, -⟩
        have HR5 := Lib.hid hR5
        clear hR5
        go_wp2_with fail
        refine (wakes16_any _).mono ?_
        rintro e w9 ⟨rfl, hb9⟩
        go_wp2_with fail
        go_ret
        exact ⟨rfl, (HR5.out.below hb9).low⟩
      · go_wp2_with fail
        refine HE.out.mono ?_
        rintro e w3 ⟨A3, c3, rfl, -, -, hR3⟩
        have HR3 := Lib.hid hR3
        clear hR3
        go_wp2_with fail
        refine (HD1.out _ HR3.out).mono ?_
        rintro e w4 ⟨rfl, hR4, -⟩
        have HR4 := Lib.hid hR4
        clear hR4
        go_wp2_with fail
        refine (HD2.out _ HR4.out).mono ?_
        rintro e w5 ⟨rfl, hR5, -⟩
        have HR5 := Lib.hid hR5
        clear hR5
        go_wp2_with fail
        refine (wakes16_any _).mono ?_
        rintro e w9 ⟨rfl, hb9⟩
        go_wp2_with fail
        go_ret
        exact ⟨rfl, (HR5.out.below hb9).low⟩
end Go.Proofs.Ytfbipebijelfjaa
