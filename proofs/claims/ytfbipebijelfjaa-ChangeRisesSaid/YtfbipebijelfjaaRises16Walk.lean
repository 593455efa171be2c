/- The walk of ChangeRises: it returns true for any ints and any list of acts. -/
import Derived.Test.YtfbipebijelfjaaChgOne
import Derived.Test.YtfbipebijelfjaaActs16
import Derived.Test.YtfbipebijelfjaaWithin
import Derived.Test.YtfbipebijelfjaaRefBallot
import Derived.Deep.DeepCutAuto
namespace Go.Proofs.Ytfbipebijelfjaa
open Go.RowKit
set_option linter.unusedSimpArgs false

theorem drC_all {L : List Cw} (h : OkC L) : drC L 12 = List.replicate L.length none := by
  unfold drC
  rw [List.eq_replicate_iff]
  refine ⟨List.length_map .., fun x hx => ?_⟩
  obtain ⟨y, hy, rfl⟩ := List.mem_map.1 hx
  cases y with
  | none => rfl
  | some p => rw [if_pos (show belC 12 (some p) = true from decide_eq_true (h p hy).2)]
theorem atC_none (n : Nat) (k : Int) : atC (List.replicate n none) k = none := by
  unfold atC
  split
  · rw [List.getD_eq_getElem?_getD, List.getElem?_replicate]
    split <;> rfl
  · rfl
theorem numC_none (n : Nat) (b : Int) : numC (List.replicate n none) b = 0 := by
  unfold numC
  rw [List.filter_eq_nil_iff.2]
  · rfl
  · intro x hx
    obtain rfl := List.eq_of_mem_replicate hx
    simp [belC]
set_option maxRecDepth 100000 in
set_option maxHeartbeats 4000000 in
theorem changeRises_walk (a0 : Int) (A : Option Addr) (c1 : Nat) (l : List Ac) (a2 : Int) (w : World) (w0 : (Lit.int .i64 a0).wf = true) (w1 : IsActs w A l c1) (w2 : (Lit.int .i64 a2).wf = true) :
    Calls Try.prog 6 #[.int .i64 a0, .slice A l.length c1, .int .i64 a2] w fun e w' => e = .returned (.bool true) ∧ Below w.heap.size w w' := by
  obtain ⟨b0, b1⟩ := wf_i64 w0
  obtain ⟨d0, d1⟩ := wf_i64 w2
  have HW4 := Lib.hid (fun w => within_any a0 4 (by omega) (by omega) b0 b1 w)
  have hf1 : 0 ≤ a0 % 4 ∧ a0 % 4 < 4 := ⟨Int.emod_nonneg _ (by omega), Int.emod_lt_of_pos _ (by omega)⟩
  obtain ⟨p, hp⟩ : ∃ p : Nat, a0 % 4 = p := ⟨(a0 % 4).toNat, by omega⟩
  rw [hp] at HW4 hf1
  obtain ⟨n, hn⟩ : ∃ n : Nat, (n : Int) = 3 * (1 + (p : Int)) + 1 := ⟨3 * p + 4, by omega⟩
  have hn13 : n ≤ 13 := by omega
  have hn1 : 1 ≤ n := by omega
  have HN := Lib.hid (fun (w : World) => (show Calls Try.prog 9 #[.int .i64 (1 + p)] w fun e w' => e = .returned (.int .i64 (n : Int)) ∧ w = w' from by
    have := rnodes_any (1 + p) w
    rwa [nodesS_in (by omega) (by omega), ← hn] at this))
  have HWn := Lib.hid (fun w => within_any a2 n (by omega) (by omega) d0 d1 w)
  obtain ⟨q, hq⟩ : ∃ q : Nat, a2 % (n : Int) = q := ⟨(a2 % (n : Int)).toNat, by have := Int.emod_nonneg a2 (show (n : Int) ≠ 0 by omega); omega⟩
  have hqn : q < n := by have := Int.emod_lt_of_pos a2 (show (0 : Int) < n by omega); omega
  rw [hq] at HWn
  have HNew := Lib.hid (fun w => rv_new (f := 1 + (p : Int)) (n := n) (by omega) (by omega) hn w w (Below.refl _ _))
  have HA := Lib.hid w1.has
  obtain ⟨m, hm⟩ : ∃ m, l.length = m := ⟨_, rfl⟩
  rw [hm]
  have HM := Lib.hid hm
  have HMx := Lib.hid (show m ≤ maxLen by rw [← hm]; exact Nat.le_trans w1.le w1.most)
  have HQ := Lib.hid hqn
  have HN13 := Lib.hid hn13
  clear w0 w1 w2 b0 b1 d0 d1 hp hn hq hn1 hm hqn hn13
  go_enter Try.func6, Try.ntmps6
  go_wp2_with fail
  refine (HW4.out _).mono ?_
  rintro e wa ⟨rfl, rfl⟩
  go_wp2_with fail
  refine (HN.out _).mono ?_
  rintro e wa ⟨rfl, rfl⟩
  go_wp2_with fail
  refine (HWn.out _).mono ?_
  rintro e wa ⟨rfl, rfl⟩
  go_wp2_with fail
  refine (HNew.out _).mono ?_
  rintro e w1 ⟨vb, g, c, rfl, hR, -, -, -⟩
  have HR := Lib.hid hR
  have HLn := Lib.hid (show (List.replicate n (none : Cw)).length = n from List.length_replicate)
  clear hR
  go_wp2_with fail
  go_loopw [9] (fun x wr => ∃ (k : Nat) (L : List Cw), x = .int .i64 k ∧ k ≤ m ∧ k ≤ 60 ∧ Hid (L.length = n) ∧ Hid (Rv w vb g c (1 + (p : Int)) L wr)) (fun x _ => m - (intOf x).toNat)
  case atStart => exact ⟨0, _, rfl, Nat.zero_le _, Nat.zero_le _, HLn, HR⟩
  case round =>
    obtain ⟨k, L, rfl, hk, hk2, HLn, HR⟩ := hrel
    by_cases hlt : k < m ∧ k < 60
    · obtain ⟨hlt1, hlt2⟩ := hlt
      obtain ⟨ad, rfl, hab, -, h1, h2, h3⟩ := act_at (HR.out.has HA.out) (show k < l.length by rw [HM.out]; exact hlt1)
      obtain ⟨⟨dd, nd, vw, sg⟩, hx⟩ : ∃ x, l[k]'(by rw [HM.out]; exact hlt1) = x := ⟨_, rfl⟩
      rw [hx] at h1 h2 h3
      simp only at h1 h2 h3
      have HCells := Lib.hid (fun (w' : World) (hb : w'.heap[(ad.add (k * 4)).block]? = wr.heap[(ad.add (k * 4)).block]?) => show (w'.cell? ⟨(ad.add (k * 4)).block, (ad.add (k * 4)).off + 1, none⟩ = some (.int .i64 nd) ∧ w'.cell? ⟨(ad.add (k * 4)).block, (ad.add (k * 4)).off + 2, none⟩ = some (.int .i64 vw) ∧ w'.cell? ⟨(ad.add (k * 4)).block, (ad.add (k * 4)).off + 3, none⟩ = some (.int .i64 sg)) from ⟨(World.cell?_of_block (a := ⟨(ad.add (k * 4)).block, (ad.add (k * 4)).off + 1, none⟩) hb).trans h1, (World.cell?_of_block (a := ⟨(ad.add (k * 4)).block, (ad.add (k * 4)).off + 2, none⟩) hb).trans h2, (World.cell?_of_block (a := ⟨(ad.add (k * 4)).block, (ad.add (k * 4)).off + 3, none⟩) hb).trans h3⟩)
      have HNE := Lib.hid (show (ad.add (k * 4)).block < wr.heap.size ∧ (ad.add (k * 4)).block ≠ g from by
        rw [addr_block]
        have := HR.out.lg
        have := HR.out.low.size
        exact ⟨by omega, by omega⟩)
      clear hx h1 h2 h3 hab
      obtain ⟨was, hwas⟩ : ∃ x, vwC (atC L q) = x := ⟨_, rfl⟩
      obtain ⟨had, hhad⟩ : ∃ x, (atC L q).isSome = x := ⟨_, rfl⟩
      have HV := Lib.hid (rv_view HR.out (q : Int))
      rw [hwas, hhad] at HV
      obtain ⟨ok, L', hpt⟩ : ∃ b L', ptC L nd vw sg = (b, L') := ⟨_, _, rfl⟩
      have HWas := Lib.hid (And.intro hwas hhad)
      have HPu := Lib.hid hpt
      clear hwas hhad
      go_wp2_with fail
      refine HV.out.mono ?_
      rintro e wv ⟨rfl, hbv, hRv⟩
      have HRv := Lib.hid hRv
      have HP := Lib.hid (rv_put HRv.out.drew nd vw sg)
      rw [hpt] at HP
      have hq1 := HCells.out wv.drew (hbv.block _ HNE.out.1)
      have HCe := Lib.hid hq1
      have HB2 := Lib.hid (show ∀ w2, Turn (fun j => j = g) wv.drew w2 → w2.heap[(ad.add (k * 4)).block]? = wr.heap[(ad.add (k * 4)).block]? from fun w2 ht => (ht.block _ (Nat.lt_of_lt_of_le HNE.out.1 hbv.size) HNE.out.2).trans (hbv.block _ HNE.out.1))
      clear hRv hbv hpt HV
      go_wp2_with fail
      go_region_held3 (fun w' => w'.cell? ⟨(ad.add (k * 4)).block, (ad.add (k * 4)).off + 1, none⟩ = some (.int .i64 nd) ∧ w'.cell? ⟨(ad.add (k * 4)).block, (ad.add (k * 4)).off + 2, none⟩ = some (.int .i64 vw) ∧ w'.cell? ⟨(ad.add (k * 4)).block, (ad.add (k * 4)).off + 3, none⟩ = some (.int .i64 sg)) (first | exact hq1 | exact hq2 | go_keep) ((go_at_call 10; refine HP.out.mono ?_; rintro e w2 ⟨rfl, hR2, ht2⟩; have hq2 := HCells.out w2 (HB2.out w2 ht2)))
      have HR2 := Lib.hid hR2
      have HCell2 := Lib.hid hq2
      have HB3 := Lib.hid (show w2.heap[(ad.add (k * 4)).block]? = wr.heap[(ad.add (k * 4)).block]? ∧ (ad.add (k * 4)).block < w2.heap.size from ⟨HB2.out w2 ht2, by
        have h := block_lt HCell2.out.1
        exact h⟩)
      clear hR2 ht2 hq1 hq2 HR HRv HP
      obtain ⟨now, hnow⟩ : ∃ x, vwC (atC L' q) = x := ⟨_, rfl⟩
      obtain ⟨has, hhas⟩ : ∃ x, (atC L' q).isSome = x := ⟨_, rfl⟩
      have HV2 := Lib.hid (rv_view HR2.out (q : Int))
      rw [hnow, hhas] at HV2
      have HNow := Lib.hid (And.intro hnow hhas)
      have HLn2 := Lib.hid (show L'.length = n by have := ptC_len L nd vw sg; rw [HPu.out] at this; exact this.trans HLn.out)
      clear hnow hhas
      have HCs3 := Lib.hid (fun w3 (hb : Below w2.heap.size w2 w3) => HCells.out w3 ((hb.block _ HB3.out.2).trans HB3.out.1))
      by_cases hnd : nd = (q : Int)
      · subst hnd
        have g0 : ((q : Int) != (q : Int)) = false := by simp
        have g1 : ((q : Int) == (q : Int)) = true := by simp
        cases ok with
        | false =>
          obtain ⟨rfl, -⟩ := ptC_no HPu.out
          obtain rfl : was = now := HWas.out.1.symm.trans HNow.out.1
          obtain rfl : had = has := HWas.out.2.symm.trans HNow.out.2
          have g2 : (was != was) = false := by simp
          have g3 : (had != had) = false := by simp
          go_wp2_with fail
          refine HV2.out.mono ?_
          rintro e w3 ⟨rfl, hb3, hR3⟩
          obtain ⟨e1, e2, e3⟩ := HCs3.out w3 hb3
          have HR3 := Lib.hid hR3
          clear hb3 hR3
          go_wp2_with fail
          go_roundw
          case rel => exact ⟨k + 1, L', by go_num, by omega, by omega, HLn2, HR3⟩
          case measure => simp [intOf]; omega
        | true =>
          have hy := ptC_yes HPu.out
          have hya : atC L' (q : Int) = some (vw, sg) := by rw [hy.2.2, if_pos rfl]
          have hnow := HNow.out.1
          have hhas := HNow.out.2
          rw [hya] at hnow hhas
          obtain rfl : vw = now := hnow
          obtain rfl : true = has := hhas
          have g2 : (vw != vw) = false := by simp
          have HWf := Lib.hid (show had = true → was < vw from fun h => by
            cases ha : atC L (q : Int) with
            | none => have := HWas.out.2; rw [ha] at this; rw [h] at this; cases this
            | some x =>
              have h1 := hy.1.2.2.2 x ha
              have h2 := HWas.out.1
              rw [ha] at h2
              have h2 : x.1 = was := h2
              omega)
          clear hy hya
          cases had with
          | false =>
            go_wp2_with fail
            refine HV2.out.mono ?_
            rintro e w3 ⟨rfl, hb3, hR3⟩
            obtain ⟨e1, e2, e3⟩ := HCs3.out w3 hb3
            have HR3 := Lib.hid hR3
            clear hb3 hR3
            go_wp2_with fail
            go_roundw
            case rel => exact ⟨k + 1, L', by go_num, by omega, by omega, HLn2, HR3⟩
            case measure => simp [intOf]; omega
          | true =>
            have g4 : decide (vw ≤ was) = false := decide_eq_false (by have := HWf.out rfl; omega)
            go_wp2_with fail
            refine HV2.out.mono ?_
            rintro e w3 ⟨rfl, hb3, hR3⟩
            obtain ⟨e1, e2, e3⟩ := HCs3.out w3 hb3
            have HR3 := Lib.hid hR3
            clear hb3 hR3
            go_wp2_with fail
            go_roundw
            case rel => exact ⟨k + 1, L', by go_num, by omega, by omega, HLn2, HR3⟩
            case measure => simp [intOf]; omega
      · have g0 : (nd != (q : Int)) = true := by simp [hnd]
        have g1 : (nd == (q : Int)) = false := by simp [hnd]
        have hsame : atC L' (q : Int) = atC L (q : Int) := by
          cases ok with
          | false => rw [(ptC_no HPu.out).1]
          | true => rw [(ptC_yes HPu.out).2.2, if_neg (fun e => hnd e.symm)]
        have hw1 := HNow.out.1
        have hw2 := HNow.out.2
        rw [hsame] at hw1 hw2
        obtain rfl : was = now := HWas.out.1.symm.trans hw1
        obtain rfl : had = has := HWas.out.2.symm.trans hw2
        have g2 : (was != was) = false := by simp
        have g3 : (had != had) = false := by simp
        clear hsame hw1 hw2 hnd
        go_wp2_with fail
        refine HV2.out.mono ?_
        rintro e w3 ⟨rfl, hb3, hR3⟩
        obtain ⟨e1, e2, e3⟩ := HCs3.out w3 hb3
        have HR3 := Lib.hid hR3
        clear hb3 hR3
        go_wp2_with fail
        go_roundw
        case rel => exact ⟨k + 1, L', by go_num, by omega, by omega, HLn2, HR3⟩
        case measure => simp [intOf]; omega
    · have hg : (decide ((k : Int) < (m : Int)) && decide ((k : Int) < 60)) = false := by simp; omega
      have HNum := Lib.hid (show numC L 12 ≤ n from by have := num_le L 12; rw [HLn.out] at this; omega)
      have HD := Lib.hid (rv_drop HR.out 12)
      rw [drC_all HR.out.vq.ok, HLn.out] at HD
      obtain ⟨x, hx⟩ : ∃ x, numC L 12 = x := ⟨_, rfl⟩
      rw [hx] at HD HNum
      have gN : decide ((x : Int) ≤ (n : Int)) = true := decide_eq_true (by have := HNum.out; omega)
      have gN2 : decide (x ≤ n) = true := decide_eq_true HNum.out
      have HEnd := Lib.hid (fun (wz : World) (hz : Rv w vb g c (1 + (p : Int)) (List.replicate n none) wz) => rv_view hz (q : Int))
      have HEnd2 := Lib.hid (fun (wz : World) (hz : Rv w vb g c (1 + (p : Int)) (List.replicate n none) wz) => rv_drop hz 12)
      rw [atC_none] at HEnd
      rw [numC_none] at HEnd2
      clear hx HR HLn
      by_cases hk1 : k < m
      · go_wp2_with fail
        refine HD.out.mono ?_
        rintro e w2 ⟨rfl, hR2, -⟩
        have HR2 := Lib.hid hR2
        clear hR2
        go_wp2_with fail
        refine (HEnd.out _ HR2.out).mono ?_
        rintro e w3 ⟨rfl, -, hR3⟩
        have HR3 := Lib.hid hR3
        clear hR3
        go_wp2_with fail
        refine (HN.out _).mono ?_
        rintro e w4 ⟨rfl, rfl⟩
        go_wp2_with fail
        refine (HEnd2.out _ HR3.out).mono ?_
        rintro e w4 ⟨rfl, hR4, -⟩
        have HR4 := Lib.hid hR4
        clear hR4
        go_wp2_with fail
        refine (wakes16_any _).mono ?_
        rintro e w9 ⟨rfl, hb9⟩
        go_wp2_with fail
        go_ret
        exact ⟨rfl, (HR4.out.below hb9).low⟩
      · go_wp2_with fail
        refine HD.out.mono ?_
        rintro e w2 ⟨rfl, hR2, -⟩
        have HR2 := Lib.hid hR2
        clear hR2
        go_wp2_with fail
        refine (HEnd.out _ HR2.out).mono ?_
        rintro e w3 ⟨rfl, -, hR3⟩
        have HR3 := Lib.hid hR3
        clear hR3
        go_wp2_with fail
        refine (HN.out _).mono ?_
        rintro e w4 ⟨rfl, rfl⟩
        go_wp2_with fail
        refine (HEnd2.out _ HR3.out).mono ?_
        rintro e w4 ⟨rfl, hR4, -⟩
        have HR4 := Lib.hid hR4
        clear hR4
        go_wp2_with fail
        refine (wakes16_any _).mono ?_
        rintro e w9 ⟨rfl, hb9⟩
        go_wp2_with fail
        go_ret
        exact ⟨rfl, (HR4.out.below hb9).low⟩
end Go.Proofs.Ytfbipebijelfjaa
