/- The walk of BallotSets: it returns true for any ints. (Asks a set's four contracts as SetLaws.) -/
import Derived.Test.YtallcmknajigfaaPrim4Walk
namespace Go.Proofs.Ytallcmknajigfaa
open Go.RowKit

theorem marked_out {bs : List Bool} {k : Int} (h : k < 0 ∨ 13 ≤ k) : marked bs k = false := by
  unfold marked; rw [decide_eq_false (by omega)]; rfl
theorem putS_out {bs : List Bool} {k : Int} (h : k < 0 ∨ 13 ≤ k) : putS bs k = bs := by unfold putS; rw [if_neg (by omega)]
def ranks (bs : List Bool) (n : Nat) : List Nat := List.filter (fun k : Nat => marked bs (k : Int)) (List.range n)
theorem ranks_len {bs : List Bool} (hl : bs.length = 13) : ∀ n, n ≤ 13 → (ranks bs n).length = cnt (bs.take n)
  | 0, _ => by simp [ranks, cnt]
  | n + 1, h => by
    obtain ⟨b, hb⟩ := got (l := bs) (k := n) (by omega)
    have h1 : ranks bs (n + 1) = ranks bs n ++ List.filter (fun k : Nat => marked bs (k : Int)) [n] := by unfold ranks; rw [List.range_succ, List.filter_append]
    rw [h1, List.length_append, ranks_len hl n (by omega), cnt_next hb]
    have h2 : marked bs (n : Int) = b := by rw [marked_nat (by omega), hb]; cases b <;> rfl
    simp only [List.filter_cons, List.filter_nil, h2]
    cases b <;> simp
theorem allS_len {bs : List Bool} (hl : bs.length = 13) : (allS bs).length = cnt bs := by
  have := ranks_len hl 13 (Nat.le_refl _)
  rw [List.take_of_length_le (by omega)] at this
  rw [← this]
  unfold allS ranks
  rw [List.length_map]
theorem allS_get {bs : List Bool} (_hl : bs.length = 13) {j : Nat} {z : Int} (h : (allS bs)[j]? = some z) : ∃ k : Nat, z = k ∧ k < 13 ∧ bs[k]? = some true := by
  have hm := List.mem_of_getElem? h
  unfold allS at hm
  obtain ⟨k, hk, rfl⟩ := List.mem_map.1 hm
  obtain ⟨h1, h2⟩ := List.mem_filter.1 hk
  have h3 := List.mem_range.1 h1
  refine ⟨k, rfl, h3, ?_⟩
  rw [marked_nat h3] at h2
  simpa using h2
theorem allS_rise {bs : List Bool} {i j : Nat} {y z : Int} (hij : i < j) (hi : (allS bs)[i]? = some y) (hj : (allS bs)[j]? = some z) : y < z := by
  have hp : (allS bs).Pairwise (· < ·) := by
    unfold allS
    rw [List.pairwise_map]
    exact ((List.pairwise_lt_range (n := 13)).filter _).imp (fun h => by omega)
  obtain ⟨h1, h2⟩ := List.getElem?_eq_some_iff.1 hi
  obtain ⟨h3, h4⟩ := List.getElem?_eq_some_iff.1 hj
  rw [← h2, ← h4]
  exact List.pairwise_iff_getElem.1 hp i j h1 h3 hij
/-- What holds in the first loop. -/
structure SetsSt (w : World) (bs : List Bool) (wr : World) : Prop where
  set : SetIs wr w.heap.size bs
  arr : Blk wr (w.heap.size + 1) 43 (boolCells bs)
  low : Below w.heap.size w wr
theorem SetsSt.drewN {w wr : World} {bs : List Bool} (h : SetsSt w bs wr) (n : Nat) : SetsSt w bs (wr.drewN n) := ⟨h.set.drewN n, h.arr.drewN n, h.low.trans ⟨rfl, rfl, rfl, Nat.le_refl _, fun _ _ => rfl⟩⟩
theorem SetsSt.put {w wr w2 : World} {bs bs2 : List Bool} (h : SetsSt w bs wr) (hs : SetIs w2 w.heap.size bs2) (ho : Only w.heap.size wr w2) : SetIs w2 w.heap.size bs2 ∧ Blk w2 (w.heap.size + 1) 43 (boolCells bs) ∧ Below w.heap.size w w2 :=
  ⟨hs, ho.blk h.arr (by omega), h.low.trans (ho.below (Nat.le_refl _) h.low.size)⟩

theorem Only.cell_low {w wr w2 : World} {bs : List Bool} {ad : Addr} {i : Nat} (ho : Only w.heap.size wr w2) (ha : ad.block < w.heap.size) (h : SetsSt w bs wr) : w2.cell? (ad.add i) = wr.cell? (ad.add i) :=
  World.cell?_of_block (w := wr) (ho.block _ (by rw [addr_block]; have := h.low.size; omega) (by rw [addr_block]; omega))
set_option maxHeartbeats 4000000 in
set_option maxRecDepth 100000 in
theorem ballotSets_walk (S : SetLaws) (A : Option Addr) (c : Nat) (l : List Int) (w : World) (w0 : IsList .i64 w A l c) :
    Calls Try.prog 7 #[.slice A l.length c] w fun e w' => e = .returned (.bool true) ∧ Below w.heap.size w w' := by
  have hlc := Nat.le_trans w0.le w0.most
  unfold maxLen at hlc
  have HH := Lib.hid w0.has
  have HS := Lib.hid S
  clear w0 S
  go_enter Try.func7, Try.ntmps7
  go_wp2_with fail
  have HS0 := Lib.hid (show SetsSt w noMarks ((w.alloc (.cells #[.int .u16 0] 30)).alloc (.cells #[.bool false, .bool false, .bool false, .bool false, .bool false, .bool false, .bool false, .bool false, .bool false, .bool false, .bool false, .bool false, .bool false] 43)) from
    ⟨(SetIs.new w).below ((Below.refl _ _).alloc (Nat.le_refl _) _), Blk.new1 w _ _ _, ((Below.refl _ _).alloc (Nat.le_refl _) _).alloc (by simp) _⟩)
  go_loopw [5, 6] (fun y x wr => ∃ (i : Nat) (bs : List Bool), x = .int .i64 i ∧ y = .int .i64 (cnt bs) ∧ i ≤ l.length ∧ i ≤ 100 ∧ Hid (SetsSt w bs wr)) (fun _ x _ => 100 - (intOf x).toNat)
  case atStart => exact ⟨0, noMarks, rfl, rfl, Nat.zero_le _, Nat.zero_le _, HS0.out⟩
  case round =>
    obtain ⟨i, bs, rfl, rfl, hi, hi100, HSt⟩ := hrel
    have hcb : cnt bs ≤ 13 := by have := cnt_le bs; rw [HSt.out.set.len] at this; exact this
    by_cases hc : i < l.length ∧ i < 100
    · obtain ⟨h1, h2⟩ := hc
      obtain ⟨ad, z, rfl, hab, hcell, _, _⟩ := (HH.out.below HSt.out.low (Nat.le_refl _)).int h1
      have HP := Lib.hid (HS.out.put HSt.out.set z)
      have HAd := Lib.hid hab
      rcases (show z < 0 ∨ (0 ≤ z ∧ 13 ≤ z) ∨ (0 ≤ z ∧ z < 13) by omega) with hz | ⟨hz, hz2⟩ | ⟨hz, hz2⟩
      · have t1 : decide (0 ≤ z) = false := decide_eq_false (by omega)
        rw [putS_out (Or.inl hz), decide_eq_false (by omega)] at HP
        have HMk := Lib.hid (marked_out (bs := bs) (Or.inl hz))
        clear hz
        go_wp2_with fail
        refine HP.out.mono ?_
        rintro e w2 ⟨rfl, hs2, ho2⟩
        obtain ⟨k1, k2, k3⟩ := HSt.out.put hs2 ho2
        have HSt2 := Lib.hid (show SetsSt w bs w2 from ⟨k1, k2, k3⟩)
        have hc2 : w2.cell? (ad.add i) = some (.int .i64 z) := (ho2.cell_low HAd.out HSt.out).trans hcell
        clear hs2 ho2 k1 k2 k3
        have HLn := Lib.hid (fun q => HS.out.len (HSt2.out.set.drewN q))
        have HHs := Lib.hid (fun q => HS.out.has (HSt2.out.set.drewN q) z)
        rw [HMk.out] at HHs
        go_wp2_with fail
        go_quiet ((first | (go_at_call 31; exact Calls.quiet_of (HLn.out _)) | (go_at_call 32; exact Calls.quiet_of (HHs.out _))))
        go_wp2_with fail
        go_roundw
        case rel => exact ⟨i + 1, bs, by go_num, rfl, by omega, by omega, HSt2.out.drewN _⟩
        case measure => simp [intOf]; omega
      · have t1 : decide (0 ≤ z) = true := decide_eq_true hz
        have t2 : decide (z < 13) = false := decide_eq_false (by omega)
        rw [putS_out (Or.inr hz2), decide_eq_false (by omega)] at HP
        have HMk := Lib.hid (marked_out (bs := bs) (Or.inr hz2))
        clear hz hz2
        go_wp2_with fail
        refine HP.out.mono ?_
        rintro e w2 ⟨rfl, hs2, ho2⟩
        obtain ⟨k1, k2, k3⟩ := HSt.out.put hs2 ho2
        have HSt2 := Lib.hid (show SetsSt w bs w2 from ⟨k1, k2, k3⟩)
        have hc2 : w2.cell? (ad.add i) = some (.int .i64 z) := (ho2.cell_low HAd.out HSt.out).trans hcell
        clear hs2 ho2 k1 k2 k3
        have HLn := Lib.hid (fun q => HS.out.len (HSt2.out.set.drewN q))
        have HHs := Lib.hid (fun q => HS.out.has (HSt2.out.set.drewN q) z)
        rw [HMk.out] at HHs
        go_wp2_with fail
        go_quiet ((first | (go_at_call 31; exact Calls.quiet_of (HLn.out _)) | (go_at_call 32; exact Calls.quiet_of (HHs.out _))))
        go_wp2_with fail
        go_roundw
        case rel => exact ⟨i + 1, bs, by go_num, rfl, by omega, by omega, HSt2.out.drewN _⟩
        case measure => simp [intOf]; omega
      · obtain ⟨n, rfl⟩ := Int.eq_ofNat_of_zero_le hz
        have hn : n < 13 := by omega
        obtain ⟨b, hb⟩ := got (l := bs) (k := n) (by rw [HSt.out.set.len]; exact hn)
        have HMk := Lib.hid (show marked bs (n : Int) = b by rw [marked_nat hn, hb]; cases b <;> rfl)
        have HPs := Lib.hid (show putS bs (n : Int) = bs.set n true by unfold putS; rw [if_pos ⟨hz, hz2⟩]; rfl)
        rw [HMk.out, HPs.out, decide_eq_true (show 0 ≤ (n : Int) ∧ (n : Int) < 13 from ⟨hz, hz2⟩)] at HP
        have hbc : wr.cell? ⟨w.heap.size + 1, n, none⟩ = some (.bool b) := (HSt.out.arr.cell n).trans (boolCells_get hb)
        have HBb := Lib.hid hb
        clear hb hz hz2
        cases b
        · go_wp2_with fail
          refine HP.out.mono ?_
          rintro e w2 ⟨rfl, hs2, ho2⟩
          obtain ⟨k1, k2, k3⟩ := HSt.out.put hs2 ho2
          have hc2 : w2.cell? (ad.add i) = some (.int .i64 n) := (ho2.cell_low HAd.out HSt.out).trans hcell
          have hf2 := k2.frozen n
          have hb2 := (k2.cell n).trans (boolCells_get HBb.out)
          have HSt2 := Lib.hid (show SetsSt w (bs.set n true) (w2.setCell ⟨w.heap.size + 1, n, none⟩ (.bool true)) from
            ⟨⟨k1.len, k1.blk.far (by simp) _⟩, by have := k2.set_ n (.bool true); rw [boolCells_set] at this; exact this, k3.setCell (p := ⟨w.heap.size + 1, n, none⟩) (Nat.le_succ _) _⟩)
          obtain ⟨w3, hw3⟩ : ∃ w3, w3 = w2.setCell ⟨w.heap.size + 1, n, none⟩ (.bool true) := ⟨_, rfl⟩
          have HCn := Lib.hid (show cnt (bs.set n true) = cnt bs + 1 from cnt_set HBb.out)
          have HLn := Lib.hid (fun q => HS.out.len (HSt2.out.set.drewN q))
          have HHs := Lib.hid (fun q => HS.out.has (HSt2.out.set.drewN q) n)
          have hc3 : (w2.setCell ⟨w.heap.size + 1, n, none⟩ (.bool true)).cell? (ad.add i) = some (.int .i64 n) := by
            rw [World.cell?_of_block (w := w2) (Below.heap_setCell w2 _ _ _ (by rw [addr_block]; have := HAd.out; show _ ≠ w.heap.size + 1; omega))]; exact hc2
          rw [HCn.out] at HLn
          rw [show marked (bs.set n true) (n : Int) = true by rw [marked_nat hn, List.getElem?_set_self (by rw [HSt.out.set.len]; exact hn)]; rfl] at HHs
          clear hs2 ho2 k1 k2 k3 hbc hw3
          go_wp2_with fail
          go_quiet ((first | (go_at_call 31; exact Calls.quiet_of (HLn.out _)) | (go_at_call 32; exact Calls.quiet_of (HHs.out _))))
          go_wp2_with fail
          go_roundw
          case rel => exact ⟨i + 1, bs.set n true, by go_num, by rw [HCn.out]; go_num, by omega, by omega, HSt2.out.drewN _⟩
          case measure => simp [intOf]; omega
        · rw [set_same HBb.out] at HP
          go_wp2_with fail
          refine HP.out.mono ?_
          rintro e w2 ⟨rfl, hs2, ho2⟩
          obtain ⟨k1, k2, k3⟩ := HSt.out.put hs2 ho2
          have HSt2 := Lib.hid (show SetsSt w bs w2 from ⟨k1, k2, k3⟩)
          have hc2 : w2.cell? (ad.add i) = some (.int .i64 n) := (ho2.cell_low HAd.out HSt.out).trans hcell
          have HLn := Lib.hid (fun q => HS.out.len (HSt2.out.set.drewN q))
          have HHs := Lib.hid (fun q => HS.out.has (HSt2.out.set.drewN q) n)
          rw [HMk.out] at HHs
          clear hs2 ho2 k1 k2 k3 hbc
          go_wp2_with fail
          go_quiet ((first | (go_at_call 31; exact Calls.quiet_of (HLn.out _)) | (go_at_call 32; exact Calls.quiet_of (HHs.out _))))
          go_wp2_with fail
          go_roundw
          case rel => exact ⟨i + 1, bs, by go_num, rfl, by omega, by omega, HSt2.out.drewN _⟩
          case measure => simp [intOf]; omega
    · have hor : (i < l.length ∧ 100 ≤ i) ∨ l.length ≤ i := by omega
      have HAll := Lib.hid (HS.out.all HSt.out.set)
      clear hc
      rcases hor with ⟨hq, hq2⟩ | hq
      all_goals
        go_wp2_with fail
        refine HAll.out.mono ?_
        rintro e w2 ⟨v, rfl, ho, hb2⟩
        obtain ⟨Av, cv, hv, _, _⟩ := own_slice ho
        subst hv
        have HV := Lib.hid (Has.own ho)
        have HLen := Lib.hid (allS_len HSt.out.set.len)
        have HS2 := Lib.hid (HSt.out.arr.below hb2 HSt.out.arr.lt)
        have HB2 := Lib.hid (HSt.out.low.trans (hb2.mono HSt.out.low.size))
        rw [HLen.out]
        clear ho hb2 HAll
        go_wp2_with fail
        go_loopw [82] (fun y wl => ∃ (j m : Nat), y = .int .i64 j ∧ j ≤ cnt bs ∧ Hid (wl = w2.drewN m)) (fun y _ => cnt bs - (intOf y).toNat)
        case atStart => exact ⟨0, 0, rfl, Nat.zero_le _, rfl⟩
        case round =>
          obtain ⟨j, m, rfl, hj, HW⟩ := hrel
          by_cases hjl : j < cnt bs
          · obtain ⟨z, hz⟩ : ∃ z, (allS bs)[j]? = some z := ⟨_, List.getElem?_eq_getElem (by rw [HLen.out]; exact hjl)⟩
            obtain ⟨k, rfl, hk, hbk⟩ := allS_get HSt.out.set.len hz
            have hHv : Has wr w2.heap.size Av (intCells (allS bs)) := by rw [HW.out]; exact HV.out.drewN m
            obtain ⟨ax, hax, _, c0⟩ := hHv j (.int .i64 k) (by simp [intCells, hz])
            subst hax
            have hba : wr.cell? ⟨w.heap.size + 1, k, none⟩ = some (.bool true) := by rw [HW.out]; exact ((HS2.out.drewN m).cell k).trans (boolCells_get hbk)
            have t1 : decide ((k : Int) < 0) = false := decide_eq_false (by omega)
            have t2 : decide (13 ≤ (k : Int)) = false := decide_eq_false (by omega)
            have HZ := Lib.hid hz
            clear hz hbk
            by_cases hj0 : j = 0
            · have tk : decide (0 < j) = false := decide_eq_false (by omega)
              clear hj0 hHv
              go_wp2_with fail
              go_quiet (fail)
              go_wp2_with fail
              go_roundw
              case rel => exact ⟨j + 1, m + nq, by go_num, by omega, (show _ = _ by rw [HW.out, World.drewN_drewN])⟩
              case measure => simp [intOf]; omega
            · obtain ⟨j1, hj1⟩ : ∃ j1, j - 1 = j1 := ⟨_, rfl⟩
              have hj2 : (j : Int) - 1 = (j1 : Int) := by omega
              obtain ⟨y, hy⟩ : ∃ y, (allS bs)[j1]? = some y := ⟨_, List.getElem?_eq_getElem (by rw [HLen.out]; omega)⟩
              obtain ⟨ax', he, _, c1⟩ := hHv j1 (.int .i64 y) (by simp [intCells, hy])
              cases he
              have t3 : decide ((k : Int) ≤ y) = false := decide_eq_false (by have := allS_rise (by omega) hy HZ.out; omega)
              have tk : decide (0 < j) = true := decide_eq_true (by omega)
              have hj1c : j1 < cnt bs := by omega
              clear hj0 hHv hy hj1
              go_wp2_with fail
              go_quiet (fail)
              go_wp2_with fail
              go_roundw
              case rel => exact ⟨j + 1, m + nq, by go_num, by omega, (show _ = _ by rw [HW.out, World.drewN_drewN])⟩
              case measure => simp [intOf]; omega
          · obtain rfl : j = cnt bs := by omega
            go_wp2_with fail
            refine (wakesB_any _).mono ?_
            rintro e w' ⟨rfl, rfl⟩
            go_wp2_with fail
            go_ret
            exact ⟨rfl, by rw [HW.out]; exact HB2.out.trans ⟨rfl, rfl, rfl, Nat.le_refl _, fun _ _ => rfl⟩⟩
end Go.Proofs.Ytallcmknajigfaa
