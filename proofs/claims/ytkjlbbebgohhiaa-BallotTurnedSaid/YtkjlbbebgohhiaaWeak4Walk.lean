/- The walk of BallotWeak: it returns true for any f and any ints. (Asks a set's four contracts as SetLaws.) -/
import Derived.Test.YtkjlbbebgohhiaaSets4Walk
import Derived.Deep.DeepCutAuto
import Derived.Deep.CutBlock
namespace Go.Proofs.Ytkjlbbebgohhiaa
open Go.RowKit

theorem put_cnt_le {bs : List Bool} (hl : bs.length = 13) (k : Int) : cnt (putS bs k) ≤ cnt bs + 1 := by
  by_cases hk : 0 ≤ k ∧ k < 13
  · cases hm : marked bs k
    · rw [put_cnt hl hk hm]; exact Nat.le_refl _
    · obtain ⟨n, rfl⟩ := Int.eq_ofNat_of_zero_le hk.1
      rw [marked_nat (by omega)] at hm
      have : putS bs (n : Int) = bs := by unfold putS; rw [if_pos hk]; exact set_same (by simpa using hm)
      rw [this]; omega
  · rw [putS_out (by omega)]; omega
theorem put_marked {bs : List Bool} (hl : bs.length = 13) {k : Nat} (hk : k < 13) : marked (putS bs (k : Int)) (k : Int) = true := by
  rw [marked_nat hk]
  unfold putS
  rw [if_pos (by omega)]
  rw [show ((k : Int)).toNat = k by omega, List.getElem?_set_self (by omega)]
  rfl
theorem put_keeps {bs : List Bool} (hl : bs.length = 13) {k x : Nat} (hk : k < 13) (hx : marked bs (x : Int) = true) : marked (putS bs (k : Int)) (x : Int) = true := by
  by_cases e : x = k
  · subst e; exact put_marked hl hk
  · rw [put_else (by omega)]; exact hx
theorem cnt_all {bs : List Bool} (hl : bs.length = 13) {n : Nat} (hn : n ≤ 13) (h : ∀ q : Nat, q < n → marked bs (q : Int) = true) : n ≤ cnt bs := by
  have h1 := cnt_full (l := bs.take n) (fun k hk => by
    have hk2 : k < n := by rw [List.length_take] at hk; omega
    rw [List.getElem?_take, if_pos hk2]
    have := h k hk2
    rw [marked_nat (by omega)] at this
    simpa using this)
  have h2 := cnt_mono bs n 13 hn
  rw [List.take_of_length_le (by omega : bs.length ≤ 13)] at h2
  rw [List.length_take] at h1
  omega
/-- Of those in the one set, how many are in the other too. -/
def both (bb : List Bool) (l : List Int) : Nat := (l.filter (marked bb)).length
theorem both_le {ba bb : List Bool} (hb : bb.length = 13) : both bb (allS ba) ≤ cnt bb := by
  have h1 := ranks_len hb 13 (Nat.le_refl _)
  rw [List.take_of_length_le (by omega)] at h1
  unfold both allS
  rw [List.filter_map, List.length_map, ← h1]
  unfold ranks
  rw [List.filter_filter]
  have h2 : (List.filter (fun a : Nat => (marked bb ∘ fun k : Nat => (k : Int)) a && marked ba (a : Int)) (List.range 13)) = List.filter (fun k : Nat => marked ba (k : Int)) (List.filter (fun k : Nat => marked bb (k : Int)) (List.range 13)) := by
    rw [List.filter_filter]
    congr 1
    funext a
    simp [Bool.and_comm]
  rw [h2]
  exact List.length_filter_le _ _
theorem both_next {bb : List Bool} {l : List Int} {j : Nat} {z : Int} (h : l[j]? = some z) : both bb (l.take (j + 1)) = both bb (l.take j) + (if marked bb z then 1 else 0) := by
  unfold both
  rw [List.take_add_one, h, List.filter_append, List.length_append]
  cases hm : marked bb z <;> simp [hm]
/-- Two sets beside each other. -/
structure WkSt (w : World) (ba bb : List Bool) (wr : World) : Prop where
  a : SetIs wr w.heap.size ba
  b : SetIs wr (w.heap.size + 1) bb
  low : Below w.heap.size w wr
theorem WkSt.drewN {w wr : World} {ba bb : List Bool} (h : WkSt w ba bb wr) (n : Nat) : WkSt w ba bb (wr.drewN n) := ⟨h.a.drewN n, h.b.drewN n, h.low.trans ⟨rfl, rfl, rfl, Nat.le_refl _, fun _ _ => rfl⟩⟩

set_option maxHeartbeats 4000000 in
set_option maxRecDepth 100000 in
theorem ballotWeak_walk (S : SetLaws) (f : Int) (A : Option Addr) (c : Nat) (l : List Int) (A2 : Option Addr) (c2 : Nat) (l2 : List Int) (w : World) (w0 : (Lit.int .i64 f).wf = true) (w1 : IsList .i64 w A l c) (w2 : IsList .i64 w A2 l2 c2) :
    Calls Try.prog 10 #[.int .i64 f, .slice A l.length c, .slice A2 l2.length c2] w fun e w' => e = .returned (.bool true) ∧ Below w.heap.size w w' := by
  obtain ⟨q, hq, hq4⟩ := mod_four f
  have HW1 := Lib.hid (fun w => within_any f 4 (by omega) (by omega) (wf_i64 w0).1 (wf_i64 w0).2 w)
  rw [hq] at HW1
  obtain ⟨F, hF⟩ : ∃ F : Nat, q + 1 = F := ⟨_, rfl⟩
  have hF1 : 1 ≤ F := by omega
  have hF2 : F ≤ 4 := by omega
  have hFq : 1 + (q : Int) = F := by omega
  have G0 := Lib.hid (bnodes_any (F : Int))
  rw [nodesS_in (by omega) (by omega)] at G0
  have G1 := Lib.hid (bweak_any (F : Int))
  rw [weakS_in (by omega) (by omega)] at G1
  have HS := Lib.hid S
  have HLA := Lib.hid w1
  have HLB := Lib.hid w2
  clear hq w0 S w1 w2
  go_enter Try.func10, Try.ntmps10
  go_wp2_with fail
  refine (HW1.out _).mono ?_
  rintro e w' ⟨rfl, rfl⟩
  go_wp2_with fail
  refine (G0.out _).mono ?_
  rintro e w' ⟨rfl, rfl⟩
  go_upto_block 0 with fail
  have HS0 := Lib.hid (show WkSt w noMarks noMarks ((w.alloc (.cells #[.int .u16 0] 30)).alloc (.cells #[.int .u16 0] 30)) from
    ⟨(SetIs.new w).below ((Below.refl _ _).alloc (Nat.le_refl _) _), by have := SetIs.new (w.alloc (.cells #[.int .u16 0] 30)); simpa using this, ((Below.refl _ _).alloc (Nat.le_refl _) _).alloc (by simp) _⟩)
  go_cut [10] (fun s10 wx => ∃ bb, WkSt w noMarks bb wx ∧ cnt bb ≤ F)
  case first => as_aux_lemma =>
    have hl2 := Nat.le_trans HLB.out.le HLB.out.most
    unfold maxLen at hl2
    go_wp2_with fail
    go_loopw [10] (fun x wr => ∃ (i : Nat) (bb : List Bool), x = .int .i64 i ∧ i ≤ 40 ∧ Hid (WkSt w noMarks bb wr) ∧ Hid (cnt bb ≤ F)) (fun x _ => 40 - (intOf x).toNat)
    case atStart => exact ⟨0, noMarks, rfl, Nat.zero_le _, HS0.out, Nat.zero_le _⟩
    case round =>
      obtain ⟨i, bb, rfl, hi, HSt, HCn⟩ := hrel
      by_cases hc : i < l2.length ∧ i < 40
      · obtain ⟨h1, h2⟩ := hc
        have HLn := Lib.hid (HS.out.len HSt.out.b)
        go_wp2_with fail
        refine HLn.out.mono ?_
        rintro e wl ⟨rfl, m, hwl⟩
        have HSt2 := Lib.hid (show WkSt w noMarks bb wl by rw [hwl]; exact HSt.out.drewN m)
        obtain ⟨ad, z, rfl, _, hcell, _, hz⟩ := ((HLB.out.has.below HSt2.out.low (Nat.le_refl _)).int h1)
        have HF := Lib.hid (HLB.out.fits z hz)
        clear hwl
        by_cases hcn : cnt bb < F
        · obtain ⟨k, hk, hkn⟩ := mod_nat z (3 * (F : Int) + 1) (by omega)
          have HW := Lib.hid (fun w => within_any z (3 * (F : Int) + 1) (by omega) (by omega) (wf_i64 HF.out).1 (wf_i64 HF.out).2 w)
          rw [hk] at HW
          have HP := Lib.hid (HS.out.put HSt2.out.b (k : Int))
          have HC2 := Lib.hid (show cnt (putS bb (k : Int)) ≤ F from Nat.le_trans (put_cnt_le HSt2.out.b.len _) hcn)
          clear hk hz
          go_wp2_with fail
          refine (HW.out _).mono ?_
          rintro e w' ⟨rfl, rfl⟩
          go_wp2_with fail
          refine HP.out.mono ?_
          rintro e w3 ⟨rfl, hs3, ho3⟩
          have HSt3 := Lib.hid (show WkSt w noMarks (putS bb (k : Int)) w3 from ⟨HSt2.out.a.only ho3 (by omega), hs3, HSt2.out.low.trans (ho3.below (Nat.le_succ _) HSt2.out.low.size)⟩)
          clear hs3 ho3
          go_wp2_with fail
          go_roundw
          case rel => exact ⟨i + 1, _, by go_num, by omega, HSt3.out, HC2.out⟩
          case measure => simp [intOf]; omega
        · go_wp2_with fail
          go_meet
          exact ⟨bb, HSt2.out, HCn.out⟩
      · have hor : (i < l2.length ∧ 40 ≤ i) ∨ l2.length ≤ i := by omega
        clear hc
        rcases hor with ⟨hq, hq2⟩ | hq
        all_goals
          go_wp2_with fail
          go_meet
          exact ⟨bb, HSt.out, HCn.out⟩
  case rest => as_aux_lemma =>
    obtain ⟨bb, hSt, hCb⟩ := hcut
    have HStB := Lib.hid hSt
    have HCb := Lib.hid hCb
    clear hSt hCb HS0
    go_upto_block 2 with fail
    go_cut [11] (fun s11 wx => ∃ ba, WkSt w ba bb wx ∧ cnt ba ≤ F + 1)
    case first => as_aux_lemma =>
      have hl2 := Nat.le_trans HLA.out.le HLA.out.most
      unfold maxLen at hl2
      go_wp2_with fail
      go_loopw [11] (fun x wr => ∃ (i : Nat) (ba : List Bool), x = .int .i64 i ∧ i ≤ 60 ∧ Hid (WkSt w ba bb wr) ∧ Hid (cnt ba ≤ F + 1)) (fun x _ => 60 - (intOf x).toNat)
      case atStart => exact ⟨0, noMarks, rfl, Nat.zero_le _, HStB.out, Nat.zero_le _⟩
      case round =>
        obtain ⟨i, ba, rfl, hi, HSt, HCn⟩ := hrel
        by_cases hc : i < l.length ∧ i < 60
        · obtain ⟨h1, h2⟩ := hc
          have HLn := Lib.hid (HS.out.len HSt.out.a)
          go_wp2_with fail
          refine HLn.out.mono ?_
          rintro e wl ⟨rfl, m, hwl⟩
          have HSt2 := Lib.hid (show WkSt w ba bb wl by rw [hwl]; exact HSt.out.drewN m)
          obtain ⟨ad, z, rfl, _, hcell, _, hz⟩ := ((HLA.out.has.below HSt2.out.low (Nat.le_refl _)).int h1)
          have HF := Lib.hid (HLA.out.fits z hz)
          clear hwl
          go_wp2_with fail
          refine (G1.out _).mono ?_
          rintro e w' ⟨rfl, rfl⟩
          by_cases hcn : cnt ba < F + 1
          · obtain ⟨k, hk, hkn⟩ := mod_nat z (3 * (F : Int) + 1) (by omega)
            have HW := Lib.hid (fun w => within_any z (3 * (F : Int) + 1) (by omega) (by omega) (wf_i64 HF.out).1 (wf_i64 HF.out).2 w)
            rw [hk] at HW
            have HP := Lib.hid (HS.out.put HSt2.out.a (k : Int))
            have HC2 := Lib.hid (show cnt (putS ba (k : Int)) ≤ F + 1 from Nat.le_trans (put_cnt_le HSt2.out.a.len _) hcn)
            clear hk hz
            go_wp2_with fail
            refine (HW.out _).mono ?_
            rintro e w' ⟨rfl, rfl⟩
            go_wp2_with fail
            refine HP.out.mono ?_
            rintro e w3 ⟨rfl, hs3, ho3⟩
            have HSt3 := Lib.hid (show WkSt w (putS ba (k : Int)) bb w3 from ⟨hs3, HSt2.out.b.only ho3 (by omega), HSt2.out.low.trans (ho3.below (Nat.le_refl _) HSt2.out.low.size)⟩)
            clear hs3 ho3
            go_wp2_with fail
            go_roundw
            case rel => exact ⟨i + 1, _, by go_num, by omega, HSt3.out, HC2.out⟩
            case measure => simp [intOf]; omega
          · go_wp2_with fail
            go_meet
            exact ⟨ba, HSt2.out, HCn.out⟩
        · have hor : (i < l.length ∧ 60 ≤ i) ∨ l.length ≤ i := by omega
          clear hc
          rcases hor with ⟨hq, hq2⟩ | hq
          all_goals
            go_wp2_with fail
            go_meet
            exact ⟨ba, HSt.out, HCn.out⟩
    case rest => as_aux_lemma =>
      obtain ⟨ba, hSt, hCa⟩ := hcut
      have HStA := Lib.hid hSt
      have HCa := Lib.hid hCa
      clear hSt hCa HStB
      go_upto_block 4 with fail
      go_cut [12] (fun s12 wx => ∃ ba, WkSt w ba bb wx ∧ cnt ba = F + 1)
      case first => as_aux_lemma =>
        go_wp2_with fail
        go_loopw [12] (fun x wr => ∃ (k : Nat) (ba : List Bool), x = .int .i64 k ∧ k ≤ 3 * F + 1 ∧ Hid (WkSt w ba bb wr) ∧ Hid (cnt ba ≤ F + 1) ∧ Hid (∀ q : Nat, q < k → marked ba (q : Int) = true)) (fun x _ => 3 * F + 1 - (intOf x).toNat)
        case atStart => exact ⟨0, ba, rfl, Nat.zero_le _, HStA.out, HCa.out, fun q h => absurd h (by omega)⟩
        case round =>
          obtain ⟨k, ba2, rfl, hk, HSt, HCn, HMk⟩ := hrel
          by_cases hkn : k < 3 * F + 1
          · have HLn := Lib.hid (HS.out.len HSt.out.a)
            go_wp2_with fail
            refine HLn.out.mono ?_
            rintro e wl ⟨rfl, m, hwl⟩
            have HSt2 := Lib.hid (show WkSt w ba2 bb wl by rw [hwl]; exact HSt.out.drewN m)
            clear hwl
            go_wp2_with fail
            refine (G1.out _).mono ?_
            rintro e w' ⟨rfl, rfl⟩
            by_cases hcn : cnt ba2 < F + 1
            · have HP := Lib.hid (HS.out.put HSt2.out.a (k : Int))
              have HC2 := Lib.hid (show cnt (putS ba2 (k : Int)) ≤ F + 1 from Nat.le_trans (put_cnt_le HSt2.out.a.len _) hcn)
              have HMk2 := Lib.hid (show ∀ q : Nat, q < k + 1 → marked (putS ba2 (k : Int)) (q : Int) = true from fun q h => by
                by_cases hqk : q = k
                · subst hqk; exact put_marked HSt2.out.a.len (by omega)
                · exact put_keeps HSt2.out.a.len (by omega) (HMk.out q (by omega)))
              go_wp2_with fail
              refine HP.out.mono ?_
              rintro e w3 ⟨rfl, hs3, ho3⟩
              have HSt3 := Lib.hid (show WkSt w (putS ba2 (k : Int)) bb w3 from ⟨hs3, HSt2.out.b.only ho3 (by omega), HSt2.out.low.trans (ho3.below (Nat.le_refl _) HSt2.out.low.size)⟩)
              clear hs3 ho3
              go_wp2_with fail
              go_roundw
              case rel => exact ⟨k + 1, _, by go_num, by omega, HSt3.out, HC2.out, HMk2.out⟩
              case measure => simp [intOf]; omega
            · have HE := Lib.hid (show cnt ba2 = F + 1 from Nat.le_antisymm HCn.out (by omega))
              go_wp2_with fail
              go_meet
              exact ⟨ba2, HSt2.out, HE.out⟩
          · exact absurd (cnt_all HSt.out.a.len (n := 3 * F + 1) (by omega) (fun q h => HMk.out q (by omega))) (by have := HCn.out; omega)
      case rest => as_aux_lemma =>
        obtain ⟨ba2, hSt, hCa⟩ := hcut
        have HSt := Lib.hid hSt
        have HCa := Lib.hid hCa
        have HAll := Lib.hid (HS.out.all hSt.a)
        clear hSt hCa HStA
        go_wp2_with fail
        refine HAll.out.mono ?_
        rintro e w2 ⟨v, rfl, ho, hb2⟩
        obtain ⟨Av, cv, hv, _, _⟩ := own_slice ho
        subst hv
        have HV := Lib.hid (Has.own ho)
        have HLen := Lib.hid (show (allS ba2).length = F + 1 by rw [allS_len HSt.out.a.len, HCa.out])
        have HSt2 := Lib.hid (show WkSt w ba2 bb w2 from ⟨HSt.out.a.below hb2, HSt.out.b.below hb2, HSt.out.low.trans (hb2.mono HSt.out.low.size)⟩)
        rw [HLen.out]
        clear ho hb2 HAll
        go_wp2_with fail
        go_loopw [13, 82] (fun n y wl => ∃ (j d m : Nat), y = .int .i64 j ∧ n = .int .i64 d ∧ j ≤ F + 1 ∧ d ≤ j ∧ Hid (d + both bb ((allS ba2).take j) = j) ∧ Hid (wl = w2.drewN m)) (fun _ y _ => F + 1 - (intOf y).toNat)
        case atStart => exact ⟨0, 0, 0, rfl, rfl, Nat.zero_le _, Nat.le_refl _, (show _ = _ by simp [both]), rfl⟩
        case round =>
          obtain ⟨j, d, m, rfl, rfl, hj, hd, HD, HW⟩ := hrel
          by_cases hjl : j < F + 1
          · obtain ⟨z, hz⟩ : ∃ z, (allS ba2)[j]? = some z := ⟨_, List.getElem?_eq_getElem (by rw [HLen.out]; exact hjl)⟩
            obtain ⟨k, rfl, hk, _⟩ := allS_get HSt.out.a.len hz
            have hHv : Has wr w2.heap.size Av (intCells (allS ba2)) := by rw [HW.out]; exact HV.out.drewN m
            obtain ⟨ax, hax, _, c0⟩ := hHv j (.int .i64 k) (by simp [intCells, hz])
            subst hax
            have hbn := both_next (bb := bb) hz
            obtain ⟨b, hb⟩ : ∃ b, marked bb (k : Int) = b := ⟨_, rfl⟩
            rw [hb] at hbn
            have HHs := Lib.hid (HS.out.has ((show SetIs wr (w.heap.size + 1) bb by rw [HW.out]; exact HSt2.out.b.drewN m)) (k : Int))
            rw [hb] at HHs
            have HBn := Lib.hid hbn
            clear hz hHv hb hbn
            go_wp2_with fail
            refine HHs.out.mono ?_
            rintro e w3 ⟨rfl, m2, hw3⟩
            have HW3 := Lib.hid (show w3 = w2.drewN (m + m2) by rw [hw3, HW.out, World.drewN_drewN])
            clear hw3
            cases b
            · go_wp2_with fail
              go_roundw
              case rel => exact ⟨j + 1, d + 1, m + m2, by go_num, by go_num, by omega, by omega, (show _ = _ by rw [HBn.out]; have := HD.out; simp; omega), HW3.out⟩
              case measure => simp [intOf]; omega
            · go_wp2_with fail
              go_roundw
              case rel => exact ⟨j + 1, d, m + m2, by go_num, rfl, by omega, by omega, (show _ = _ by rw [HBn.out]; have := HD.out; simp; omega), HW3.out⟩
              case measure => simp [intOf]; omega
          · obtain rfl : j = F + 1 := by omega
            have HD1 := Lib.hid (show 1 ≤ d by
              have h1 := HD.out
              rw [List.take_of_length_le (Nat.le_of_eq HLen.out)] at h1
              have h2 := both_le (ba := ba2) HSt.out.b.len
              have h3 := HCb.out
              omega)
            have hd1 := HD1.out
            have HLn := Lib.hid (HS.out.len (show SetIs wr w.heap.size ba2 by rw [HW.out]; exact HSt2.out.a.drewN m))
            rw [HCa.out] at HLn
            go_wp2_with fail
            refine HLn.out.mono ?_
            rintro e w3 ⟨rfl, m2, hw3⟩
            have HB3 := Lib.hid (show Below w.heap.size w w3 by rw [hw3, HW.out]; exact HSt2.out.low.trans ⟨rfl, rfl, rfl, Nat.le_refl _, fun _ _ => rfl⟩)
            clear hw3
            go_wp2_with fail
            refine (G1.out _).mono ?_
            rintro e w' ⟨rfl, rfl⟩
            go_wp2_with fail
            refine (wakesB_any _).mono ?_
            rintro e w' ⟨rfl, rfl⟩
            go_wp2_with fail
            go_ret
            exact ⟨rfl, HB3.out⟩
end Go.Proofs.Ytkjlbbebgohhiaa
