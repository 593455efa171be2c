/- The walk of InstGaps: it returns true for any ints. -/
import Derived.Test.YtpdmflhbmimhgaaInstMk
namespace Go.Proofs.Ytpdmflhbmimhgaa
open Go.RowKit
set_option linter.unusedSimpArgs false

def gR (k : Nat) : Rq := ⟨0, (k : Int), 0, 0, 0, 0⟩
def gS (k j : Nat) : Sx := ⟨none, List.replicate 4 offV, (List.range 4).map fun i => if i < j then ⟨true, 1, [gR k]⟩ else offV⟩
def gC (k : Nat) : Ct := ⟨0, 0, (k : Int), [gR k], [⟨0, 1⟩, ⟨1, 1⟩, ⟨2, 1⟩]⟩
def gA (k : Nat) : Px := ⟨gS k 3, none, some (gC k)⟩
def gB (_ : Nat) : Px := ⟨Sx.new 4, none, none⟩
def gX (bs : List Bool) : Ix := ⟨1, 0, 1, 0, true, mkL gA gB bs⟩
theorem gS_vote {k j : Nat} (hj : j < 3) : (gS k j).vote 5 (j : Int) 1 [gR k] = (true, gS k (j + 1)) := by
  unfold Sx.vote gS
  rw [if_neg (by omega), if_pos rfl]
  rcases (by omega : j = 0 ∨ j = 1 ∨ j = 2) with rfl | rfl | rfl <;> rfl
theorem gS_had {k j : Nat} (hj : j < 3) : (gS k 3).vote 5 (j : Int) 1 [gR k] = (false, gS k 3) := by
  unfold Sx.vote gS
  rw [if_neg (by omega), if_pos rfl]
  rcases (by omega : j = 0 ∨ j = 1 ∨ j = 2) with rfl | rfl | rfl <;> rfl
theorem gS_com (k : Nat) : (gS k 3).com 3 = some ([gR k], [⟨0, 1⟩, ⟨1, 1⟩, ⟨2, 1⟩]) := by
  have h : decS (gS k 3).C [gR k] 3 = some [⟨0, 1⟩, ⟨1, 1⟩, ⟨2, 1⟩] := by
    unfold decS
    have : forL 0 (gS k 3).C [gR k] = [⟨0, 1⟩, ⟨1, 1⟩, ⟨2, 1⟩] := by
      show forL 0 [⟨true, 1, [gR k]⟩, ⟨true, 1, [gR k]⟩, ⟨true, 1, [gR k]⟩, offV] [gR k] = _
      rw [forL_cons, if_pos ⟨rfl, rfl⟩, forL_cons, if_pos ⟨rfl, rfl⟩, forL_cons, if_pos ⟨rfl, rfl⟩, forL_cons, if_neg (fun e => by cases e.1)]
      rfl
    rw [this]
    rfl
  exact comS_of (by omega) (show (gS k 3).C.length < 2 * 3 from by show 4 < 6; omega) h
theorem gX_new : Ix.new 1 0 1 4 = gX no18 := by
  unfold Ix.new gX
  have : mkL gA gB no18 = List.replicate 16 ⟨Sx.new 4, none, none⟩ := rfl
  rw [this]
/-- The slot k + 1 while it is voted for. -/
def gP (bs : List Bool) (k j : Nat) : Ix := if bs[k + 1]? = some true then gX bs else (gX bs).put k ⟨gS (k + 1) j, none, none⟩
theorem gP_zero (bs : List Bool) {k : Nat} (hk : k < 16) : gP bs k 0 = gX bs := by
  unfold gP
  split
  · rfl
  · rename_i h
    have : (mkL gA gB bs)[k]? = some (gB (k + 1)) := by rw [mkL_at hk, if_neg h]
    unfold Ix.put gX
    have h2 := set_back this
    have : (⟨gS (k + 1) 0, none, none⟩ : Px) = gB (k + 1) := rfl
    simp only [this, h2]
theorem gP_vote (bs : List Bool) {k j : Nat} (hk : k < 16) (hj : j < 3) : ∃ p c s', (gP bs k j).L[k]? = some p ∧ p.s.vote 5 (j : Int) 1 [gR (k + 1)] = (c, s') ∧ (gP bs k j).put k ⟨s', p.pr, p.co⟩ = gP bs k (j + 1) ∧ (gP bs k j).on = true := by
  by_cases h : bs[k + 1]? = some true
  · have hg : ∀ j, gP bs k j = gX bs := fun j => by unfold gP; rw [if_pos h]
    have hl : (mkL gA gB bs)[k]? = some (gA (k + 1)) := by rw [mkL_at hk, if_pos h]
    refine ⟨gA (k + 1), false, gS (k + 1) 3, by rw [hg]; exact hl, gS_had hj, ?_, by rw [hg]; rfl⟩
    rw [hg, hg]
    unfold Ix.put gX
    have := set_back hl
    simp only [show (⟨gS (k + 1) 3, (gA (k + 1)).pr, (gA (k + 1)).co⟩ : Px) = gA (k + 1) from rfl, this]
  · have hg : ∀ j, gP bs k j = (gX bs).put k ⟨gS (k + 1) j, none, none⟩ := fun j => by unfold gP; rw [if_neg h]
    refine ⟨⟨gS (k + 1) j, none, none⟩, true, gS (k + 1) (j + 1), ?_, gS_vote hj, ?_, by rw [hg]; rfl⟩
    · rw [hg]
      show ((mkL gA gB bs).set k _)[k]? = _
      rw [List.getElem?_set, if_pos rfl, if_pos (by rw [mkL_len]; exact hk)]
    · rw [hg, hg]
      unfold Ix.put
      simp only [set_twice]
set_option maxRecDepth 100000 in
set_option maxHeartbeats 4000000 in
theorem instGaps_walk (A : Option Addr) (c : Nat) (zs : List Int) (w : World) (w0 : IsList .i64 w A zs c) :
    Calls Try.prog 4 #[.slice A zs.length c] w fun e w' => e = .returned (.bool true) ∧ Below w.heap.size w w' := by
  have HL := Lib.hid w0
  obtain ⟨m0, hm0⟩ : ∃ m, zs.length = m := ⟨_, rfl⟩
  have HN := Lib.hid hm0
  have HMx := Lib.hid (show m0 ≤ maxLen by rw [← hm0]; exact Nat.le_trans HL.out.le HL.out.most)
  have HNew := Lib.hid (fun w => r_new (f := 1) (num := 0) (ah := 1) (n := 4) (by omega) (by omega) (by omega) (by omega) (by omega) (by omega) (by omega) w w (Below.refl _ _))
  rw [gX_new] at HNew
  simp only [hm0]
  clear w0 hm0
  go_enter Try.func4, Try.ntmps4
  go_wp2_with fail
  refine (HNew.out _).mono ?_
  rintro e w1 ⟨ib, rfl, hR, -⟩
  have HX := Lib.hid (show Blk (w1.alloc (.cells (boolCells no18) 37)) w1.heap.size 37 (boolCells no18) from Blk.new w1 _ _)
  have HR := Lib.hid (hR.below (wz := w1.alloc (.cells (boolCells no18) 37)) ((Below.refl _ _).alloc (Nat.le_refl _) _))
  have HG := Lib.hid (show w.heap.size ≤ w1.heap.size from hR.low.size)
  obtain ⟨gb, hgb⟩ : ∃ y, w1.heap.size = y := ⟨_, rfl⟩
  rw [hgb] at HX HG
  have HGb := Lib.hid hgb
  clear hR hgb
  go_wp2_with fail
  rw [HGb.out]
  go_loopw [6] (fun y wr => ∃ (i : Nat) (bs : List Bool), y = .int .i64 i ∧ i ≤ m0 ∧ i ≤ 40 ∧ Hid (bs.length = 18 ∧ bs[17]? = some false) ∧ Hid (Ri w ib (gX bs) wr) ∧ Hid (Blk wr gb 37 (boolCells bs))) (fun y _ => m0 - (intOf y).toNat)
  case atStart => exact ⟨0, no18, rfl, Nat.zero_le _, Nat.zero_le _, ⟨rfl, rfl⟩, HR, HX⟩
  case round =>
    clear HR HX
    obtain ⟨i, bs, rfl, hi, hi40, HLn, HR, HX⟩ := hrel
    by_cases hlt : i < m0 ∧ i < 40
    · obtain ⟨hlt1, hlt2⟩ := hlt
      have hlti : (i : Int) < (m0 : Int) := by omega
      have hlti2 : (i : Int) < 40 := by omega
      obtain ⟨ad, z1, rfl, hab, hc1, hd1, hzm1⟩ := (HL.out.has.below HR.out.low (Nat.le_refl _)).int (show i < zs.length by rw [HN.out]; exact hlt1)
      obtain ⟨y1, y2⟩ := wf_i64 (HL.out.fits z1 hzm1)
      have HW1 := Lib.hid (fun (w : World) => within_any z1 16 (by omega) (by omega) y1 y2 w)
      obtain ⟨kk, hk⟩ : ∃ k : Nat, z1 % 16 = k := ⟨(z1 % 16).toNat, by omega⟩
      have hkk : (kk : Int) < 16 := by omega
      rw [hk] at HW1
      have hk16 : kk < 16 := by omega
      clear hk y1 y2 hzm1 hd1 hab
      go_wp2_with fail
      refine (HW1.out _).mono ?_
      rintro e wq ⟨rfl, rfl⟩
      clear hc1
      go_wp2_with fail
      rw [Int.add_comm 1 (kk : Int)]
      have HB1 := Lib.hid (show Blk (wr.alloc (.cells #[.int .i64 0, .int .i64 ((kk : Int) + 1), .int .i64 0, .int .i64 0, .int .i64 0, .int .i64 0] 41)) wr.heap.size 41 _ from Blk.new wr _ _)
      have HR1 := Lib.hid (HR.out.below (wz := wr.alloc (.cells #[.int .i64 0, .int .i64 ((kk : Int) + 1), .int .i64 0, .int .i64 0, .int .i64 0, .int .i64 0] 41)) ((Below.refl _ _).alloc (Nat.le_refl _) _))
      have HX1 := Lib.hid (HX.out.alloc (.cells #[.int .i64 0, .int .i64 ((kk : Int) + 1), .int .i64 0, .int .i64 0, .int .i64 0, .int .i64 0] 41))
      obtain ⟨g2, hg2⟩ : ∃ y, wr.heap.size = y := ⟨_, rfl⟩
      rw [hg2] at HB1 ⊢
      go_loopw [9] (fun y wr => ∃ j : Nat, y = .int .i64 j ∧ j ≤ 3 ∧ Hid (Ri w ib (gP bs kk j) wr) ∧ Hid (Blk wr gb 37 (boolCells bs)) ∧ Hid (Blk wr g2 41 #[.int .i64 0, .int .i64 ((kk : Int) + 1), .int .i64 0, .int .i64 0, .int .i64 0, .int .i64 0])) (fun y _ => 3 - (intOf y).toNat)
      case atStart => exact ⟨0, rfl, Nat.zero_le _, (by rw [gP_zero bs hk16]; exact HR1), HX1, HB1⟩
      case round =>
        clear HR1 HX1 HB1 HR HX
        obtain ⟨j, rfl, hj, HR, HX, HB⟩ := hrel
        by_cases hlt : j < 3
        · have hltj : (j : Int) < 3 := by omega
          obtain ⟨p, cb, s', h1, h2, h3, h4⟩ := gP_vote bs hk16 hlt
          have HV := Lib.hid (r_vote (k := kk) (c := 1) HR.out h1 h4 5 j 1 (has_one (gR (kk + 1)) HB.out) (n := 1) rfl (by omega))
          rw [h2] at HV
          simp only [h3] at HV
          clear h1 h2 h3 h4
          go_wp2_with fail
          refine HV.out.mono ?_
          rintro e w2 ⟨rfl, hr, hkp⟩
          have HR2 := Lib.hid hr
          have HX2 := Lib.hid (hkp.blk HX.out (by decide) (by decide) (by decide))
          have HB2 := Lib.hid (hkp.blk HB.out (by decide) (by decide) (by decide))
          clear hr hkp HV
          go_wp2_with fail
          go_roundw
          case rel => exact ⟨j + 1, by go_num, by omega, HR2, HX2, HB2⟩
          case measure => simp [intOf]; omega
        · obtain rfl : j = 3 := by omega
          have hltj : ¬ ((3 : Nat) : Int) < 3 := by omega
          clear hlt
          obtain ⟨b0, hb0⟩ := bool_some (bs := bs) (k := kk + 1) (by rw [HLn.out.1]; omega)
          cases b0 with
          | true =>
            have hg : gP bs kk 3 = gX bs := by unfold gP; rw [if_pos hb0]
            have hset : bs.set (kk + 1) true = bs := set_back hb0
            rw [hg] at HR
            have HC := Lib.hid (r_commits_no (k := kk) (p := gA (kk + 1)) HR.out (by show (mkL gA gB bs)[kk]? = _; rw [mkL_at hk16, if_pos hb0]) rfl (q := 3) rfl (Or.inl rfl))
            have HS := Lib.hid hset
            have HB0 := Lib.hid hb0
            clear hg hset hb0
            go_wp2_with fail
            refine HC.out.mono ?_
            rintro e w6 ⟨rfl, hb6⟩
            have HX6a := Lib.hid (HX.out.below hb6 HX.out.lt)
            have HR6a := Lib.hid (HR.out.below hb6)
            have HX6 := Lib.hid (HX6a.out.alloc (.cells #[.int .i64 0, .int .i64 0, .int .i64 0, .slice none 0 0, .slice none 0 0] 31))
            have HR6 := Lib.hid (show Ri w ib (gX (bs.set (kk + 1) true)) _ from by rw [HS.out]; exact HR6a.out.below (wz := w6.alloc (.cells #[.int .i64 0, .int .i64 0, .int .i64 0, .slice none 0 0, .slice none 0 0] 31)) ((Below.refl _ _).alloc (Nat.le_refl _) _))
            have hck := bool_cell18 HX6.out HB0.out
            have hfk := HX6.out.frozen (kk + 1)
            clear hb6 HC
            go_wp2_with fail
            have HX7 := Lib.hid (show Blk ((w6.alloc (.cells #[.int .i64 0, .int .i64 0, .int .i64 0, .slice none 0 0, .slice none 0 0] 31)).setCell ⟨gb, kk + 1, none⟩ (.bool true)) gb 37 (boolCells (bs.set (kk + 1) true)) from by
              rw [← boolCells_set]
              exact HX6.out.set_ (kk + 1) _)
            have HR7 := Lib.hid (HR6.out.stored (i := kk + 1) HX6.out HG.out (.bool true) (by decide) (by decide) (by decide) (by decide) (by decide) (by decide))
            obtain ⟨wz, hwz⟩ : ∃ y, (w6.alloc (.cells #[.int .i64 0, .int .i64 0, .int .i64 0, .slice none 0 0, .slice none 0 0] 31)).setCell ⟨gb, kk + 1, none⟩ (.bool true) = y := ⟨_, rfl⟩
            have HLb := Lib.hid (show (bs.set (kk + 1) true).length = 18 ∧ (bs.set (kk + 1) true)[17]? = some false from ⟨by rw [List.length_set]; exact HLn.out.1, by rw [List.getElem?_set_ne (by omega)]; exact HLn.out.2⟩)
            rw [hwz] at HX7 HR7 ⊢
            clear hwz
            go_loopw [12] (fun y wr => ∃ n : Nat, y = .int .i64 n ∧ n ≤ 16 ∧ Hid (∀ i, i < n → (bs.set (kk + 1) true)[i + 1]? = some true) ∧ wr = wz) (fun y _ => 16 - (intOf y).toNat)
            case atStart => exact ⟨0, rfl, Nat.zero_le _, (fun i hi => absurd hi (Nat.not_lt_zero i)), rfl⟩
            case round =>
              obtain ⟨n, rfl, hn, HM, rfl⟩ := hrel
              obtain ⟨b, hb⟩ := bool_some (bs := bs.set (kk + 1) true) (k := n + 1) (by rw [HLb.out.1]; omega)
              have hcn := bool_cell18 HX7.out hb
              have hnz : (n : Int) < 17 := by omega
              cases b with
              | true =>
                have hn16 : n < 16 := by
                  rcases Nat.lt_or_ge n 16 with h | h
                  · exact h
                  · have : n = 16 := by omega
                    subst this
                    have := HLb.out.2
                    rw [hb] at this
                    cases this
                have HMn := Lib.hid (show ∀ i, i < n + 1 → (bs.set (kk + 1) true)[i + 1]? = some true from fun i hi => by
                  rcases Nat.lt_or_ge i n with h | h
                  · exact HM.out i h
                  · have : i = n := by omega
                    subst this
                    exact hb)
                clear hb
                go_wp2_with fail
                go_roundw
                case rel => exact ⟨n + 1, by go_num, by omega, HMn, by trivial⟩
                case measure => simp [intOf]; omega
              | false =>
                have HDn := Lib.hid (r_done HR7.out)
                have hd : doneL (gX (bs.set (kk + 1) true)).L = n := mkL_done (fun _ => rfl) (fun _ => rfl) HM.out hn hb
                rw [hd] at HDn
                clear hb hd
                go_wp2_with fail
                refine HDn.out.mono ?_
                rintro e wd ⟨rfl, rfl⟩
                go_wp2_with fail
                go_roundw
                case rel => exact ⟨i + 1, bs.set (kk + 1) true, by go_num, by omega, by omega, HLb, HR7, HX7⟩
                case measure => simp [intOf]; omega
          | false =>
            have hg : gP bs kk 3 = (gX bs).put kk ⟨gS (kk + 1) 3, none, none⟩ := by unfold gP; rw [if_neg (by rw [hb0]; simp)]
            rw [hg] at HR
            have HC := Lib.hid (r_commits (k := kk) (p := ⟨gS (kk + 1) 3, none, none⟩) HR.out (by show ((mkL gA gB bs).set kk _)[kk]? = _; rw [List.getElem?_set, if_pos rfl, if_pos (by rw [mkL_len]; exact hk16)]) rfl rfl (q := 3) rfl (gS_com (kk + 1)))
            rw [show ((gX bs).put kk ⟨gS (kk + 1) 3, none, none⟩).vw = 0 from rfl, show ((gX bs).put kk ⟨gS (kk + 1) 3, none, none⟩).num = 0 from rfl] at HC
            have HS := Lib.hid (show (((gX bs).put kk ⟨gS (kk + 1) 3, none, none⟩).put kk ⟨gS (kk + 1) 3, none, some ⟨0, 0, (kk : Int) + 1, [gR (kk + 1)], [⟨0, 1⟩, ⟨1, 1⟩, ⟨2, 1⟩]⟩⟩) = gX (bs.set (kk + 1) true) from by
              unfold Ix.put gX
              simp only [set_twice]
              rw [← mkL_set hk16 HLn.out.1]
              rfl)
            have HB0 := Lib.hid hb0
            clear hg hb0
            go_wp2_with fail
            refine HC.out.mono ?_
            rintro e w6 ⟨A9, d9, B9, e9, rfl, hn9, hr, hkp⟩
            have HX6a := Lib.hid (hkp.blk HX.out (by decide) (by decide) (by decide))
            have HB6a := Lib.hid (hkp.blk HB.out (by decide) (by decide) (by decide))
            have HR6a := Lib.hid (show Ri w ib (gX (bs.set (kk + 1) true)) w6 from by rw [← HS.out]; exact hr)
            have HN9 := Lib.hid hn9.bt
            have HB6 := Lib.hid (HB6a.out.alloc (.cells #[.int .i64 0, .int .i64 0, .int .i64 ((kk : Int) + 1), .slice A9 1 d9, .slice B9 3 e9] 31))
            have HX6 := Lib.hid (HX6a.out.alloc (.cells #[.int .i64 0, .int .i64 0, .int .i64 ((kk : Int) + 1), .slice A9 1 d9, .slice B9 3 e9] 31))
            have HR6 := Lib.hid (HR6a.out.below (wz := w6.alloc (.cells #[.int .i64 0, .int .i64 0, .int .i64 ((kk : Int) + 1), .slice A9 1 d9, .slice B9 3 e9] 31)) ((Below.refl _ _).alloc (Nat.le_refl _) _))
            have HN6 := Lib.hid (has_rows (below_own HN9.out (show Below w6.heap.size w6 (w6.alloc (.cells #[.int .i64 0, .int .i64 0, .int .i64 ((kk : Int) + 1), .slice A9 1 d9, .slice B9 3 e9] 31)) from (Below.refl _ _).alloc (Nat.le_refl _) _) (Nat.le_refl _)))
            have HSm := Lib.hid (same_reqs_is (A := A9) (A' := some ⟨g2, 0, none⟩) (c := d9) (c' := 1) (la := 1) (lb := 1) (zs := [gR (kk + 1)]) (ys := [gR (kk + 1)]) (r := true) rfl rfl (by omega) (sameL_self' _) _ HN6.out ((has_one (gR (kk + 1)) HB6.out)))
            have hck := bool_cell18 HX6.out HB0.out
            clear hn9 hr hkp HC
            go_wp2_with fail
            refine HSm.out.mono ?_
            rintro e w7 ⟨rfl, m, rfl⟩
            have hfk := HX6.out.frozen (kk + 1)
            go_wp2_with fail
            have HX6 := Lib.hid (HX6.out.drewN m)
            have HR6 := Lib.hid (HR6.out.drewN m)
            have HX7 := Lib.hid (show Blk (((w6.alloc (.cells #[.int .i64 0, .int .i64 0, .int .i64 ((kk : Int) + 1), .slice A9 1 d9, .slice B9 3 e9] 31)).drewN m).setCell ⟨gb, kk + 1, none⟩ (.bool true)) gb 37 (boolCells (bs.set (kk + 1) true)) from by
              rw [← boolCells_set]
              exact HX6.out.set_ (kk + 1) _)
            have HR7 := Lib.hid (HR6.out.stored (i := kk + 1) HX6.out HG.out (.bool true) (by decide) (by decide) (by decide) (by decide) (by decide) (by decide))
            obtain ⟨wz, hwz⟩ : ∃ y, ((w6.alloc (.cells #[.int .i64 0, .int .i64 0, .int .i64 ((kk : Int) + 1), .slice A9 1 d9, .slice B9 3 e9] 31)).drewN m).setCell ⟨gb, kk + 1, none⟩ (.bool true) = y := ⟨_, rfl⟩
            have HLb := Lib.hid (show (bs.set (kk + 1) true).length = 18 ∧ (bs.set (kk + 1) true)[17]? = some false from ⟨by rw [List.length_set]; exact HLn.out.1, by rw [List.getElem?_set_ne (by omega)]; exact HLn.out.2⟩)
            rw [hwz] at HX7 HR7 ⊢
            clear hwz
            go_loopw [12] (fun y wr => ∃ n : Nat, y = .int .i64 n ∧ n ≤ 16 ∧ Hid (∀ i, i < n → (bs.set (kk + 1) true)[i + 1]? = some true) ∧ wr = wz) (fun y _ => 16 - (intOf y).toNat)
            case atStart => exact ⟨0, rfl, Nat.zero_le _, (fun i hi => absurd hi (Nat.not_lt_zero i)), rfl⟩
            case round =>
              obtain ⟨n, rfl, hn, HM, rfl⟩ := hrel
              obtain ⟨b, hb⟩ := bool_some (bs := bs.set (kk + 1) true) (k := n + 1) (by rw [HLb.out.1]; omega)
              have hcn := bool_cell18 HX7.out hb
              have hnz : (n : Int) < 17 := by omega
              cases b with
              | true =>
                have hn16 : n < 16 := by
                  rcases Nat.lt_or_ge n 16 with h | h
                  · exact h
                  · have : n = 16 := by omega
                    subst this
                    have := HLb.out.2
                    rw [hb] at this
                    cases this
                have HMn := Lib.hid (show ∀ i, i < n + 1 → (bs.set (kk + 1) true)[i + 1]? = some true from fun i hi => by
                  rcases Nat.lt_or_ge i n with h | h
                  · exact HM.out i h
                  · have : i = n := by omega
                    subst this
                    exact hb)
                clear hb
                go_wp2_with fail
                go_roundw
                case rel => exact ⟨n + 1, by go_num, by omega, HMn, by trivial⟩
                case measure => simp [intOf]; omega
              | false =>
                have HDn := Lib.hid (r_done HR7.out)
                have hd : doneL (gX (bs.set (kk + 1) true)).L = n := mkL_done (fun _ => rfl) (fun _ => rfl) HM.out hn hb
                rw [hd] at HDn
                clear hb hd
                go_wp2_with fail
                refine HDn.out.mono ?_
                rintro e wd ⟨rfl, rfl⟩
                go_wp2_with fail
                go_roundw
                case rel => exact ⟨i + 1, bs.set (kk + 1) true, by go_num, by omega, by omega, HLb, HR7, HX7⟩
                case measure => simp [intOf]; omega
    · by_cases h1 : i < m0
      · have g1 : (i : Int) < (m0 : Int) := by omega
        have g2 : ¬ (i : Int) < 40 := by omega
        clear hlt h1
        go_wp2_with fail
        refine (wakes15_any _).mono ?_
        rintro e w4 ⟨rfl, hb4⟩
        go_wp2_with fail
        go_ret
        exact ⟨rfl, HR.out.low.trans (hb4.mono HR.out.low.size)⟩
      · have g1 : ¬ (i : Int) < (m0 : Int) := by omega
        clear hlt h1
        go_wp2_with fail
        refine (wakes15_any _).mono ?_
        rintro e w4 ⟨rfl, hb4⟩
        go_wp2_with fail
        go_ret
        exact ⟨rfl, HR.out.low.trans (hb4.mono HR.out.low.size)⟩
end Go.Proofs.Ytpdmflhbmimhgaa
