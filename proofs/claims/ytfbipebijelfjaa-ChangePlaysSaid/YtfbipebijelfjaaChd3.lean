/- The document's own votes to leave views: Drop, Enough. -/
import Derived.Test.YtfbipebijelfjaaChd2
namespace Go.Proofs.Ytfbipebijelfjaa
open Go.RowKit
set_option linter.unusedSimpArgs false

theorem dr_none {L : List Cw} {b : Int} {k : Nat} (h : L[k]? = none ∨ L[k]? = some none) : drC (L.take (k + 1)) b ++ L.drop (k + 1) = drC (L.take k) b ++ L.drop k ∧ numC (L.take (k + 1)) b = numC (L.take k) b ∧ atC (drC (L.take k) b ++ L.drop k) (k : Int) = none := by
  rcases h with h | h
  · have hk : L.length ≤ k := List.getElem?_eq_none_iff.1 h
    rw [List.take_of_length_le (show L.length ≤ k + 1 by omega), List.drop_of_length_le (show L.length ≤ k + 1 by omega), List.take_of_length_le hk, List.drop_of_length_le hk, List.append_nil]
    exact ⟨rfl, rfl, atC_out (by unfold inC; rw [drC_len]; omega)⟩
  · have e := dr_next (b := b) h
    have e1 := dr_at (b := b) h
    rw [show (if belC b (none : Cw) then (none : Cw) else none) = none by split <;> rfl] at e
    refine ⟨?_, ?_, atC_in e1⟩
    · rw [← e]
      apply List.ext_getElem?
      intro j
      by_cases hj : k = j
      · subst hj
        rw [List.getElem?_set_self (List.getElem?_eq_some_iff.1 e1).1, e1]
      · rw [List.getElem?_set_ne hj]
    · rw [num_next h]; rfl
theorem got_any (L : List Cw) (k : Nat) : (L[k]? = none ∨ L[k]? = some none) ∨ ∃ p, L[k]? = some (some p) := by
  cases h : L[k]? with
  | none => exact Or.inl (Or.inl rfl)
  | some x =>
    cases x with
    | none => exact Or.inl (Or.inr rfl)
    | some p => exact Or.inr ⟨p, rfl⟩
section
variable {w : World} {cb n : Nat} {f : Int} {L : List Cw}
structure Dd16 (w : World) (cb : Nat) (f : Int) (L : List Cw) (b : Int) (k : Nat) (wr : World) : Prop where
  blk : Blk wr cb 48 (dqC f (drC (L.take k) b ++ L.drop k))
  turn : Turn (fun j => j = cb) w wr
set_option maxHeartbeats 2000000 in
theorem ddrop_any (h : Blk w cb 48 (dqC f L)) (hok : OkC L) (hn : L.length ≤ 13) (b : Int) : Calls Try.prog 25 #[.pointer (some ⟨cb, 0, none⟩), .int .i64 b] w fun e w' => e = .returned (.int .i64 (numC L b : Int)) ∧ Blk w' cb 48 (dqC f (drC L b)) ∧ Turn (fun j => j = cb) w w' := by
  have HB := Lib.hid h
  have HOk := Lib.hid hok
  have HN := Lib.hid hn
  clear h hok hn
  go_enter Try.func25, Try.ntmps25
  go_wp2_with fail
  go_loopw [5, 6] (fun y x wr => ∃ (k m : Nat), x = .int .i64 k ∧ y = .int .i64 m ∧ k ≤ 13 ∧ m ≤ k ∧ Hid (m = numC (L.take k) b) ∧ Hid (Dd16 w cb f L b k wr)) (fun _ x _ => 13 - (intOf x).toNat)
  case atStart => exact ⟨0, 0, rfl, rfl, Nat.zero_le _, Nat.le_refl _, rfl, ⟨HB.out, Turn.refl _ _⟩⟩
  case round =>
    clear HB
    obtain ⟨k, m, rfl, rfl, hk, hmk, HM, HD⟩ := hrel
    by_cases hlt : k < 13
    · have hcv := HD.out.blk.cell (1 + k)
      rw [show (dqC f (drC (L.take k) b ++ L.drop k))[1 + k]? = _ from dqG_v _ _ _ hlt] at hcv
      have hki : (k : Int) < 13 := by omega
      rcases got_any L k with hx | ⟨⟨pv, ps⟩, hx⟩
      · obtain ⟨e1, e2, e3⟩ := dr_none (b := b) hx
        rw [vD_none e3] at hcv
        have HD2 := Lib.hid (show Dd16 w cb f L b (k + 1) wr from ⟨by rw [e1]; exact HD.out.blk, HD.out.turn⟩)
        have HM2 := Lib.hid (show m = numC (L.take (k + 1)) b from by rw [e2]; exact HM.out)
        clear hx e1 e2 e3
        go_wp2_with fail
        go_roundw
        case rel => exact ⟨k + 1, m, by go_num, rfl, by omega, by omega, HM2, HD2⟩
        case measure => simp [intOf]; omega
      · have hat := atC_in (dr_at (b := b) hx)
        rw [vD_some hat] at hcv
        simp only at hcv
        have hp0 := HOk.out.at hx
        have g0 : decide (0 ≤ pv) = true := decide_eq_true hp0.1
        have hkL : k < (drC (L.take k) b ++ L.drop k).length := by rw [dr_len]; exact (List.getElem?_eq_some_iff.1 hx).1
        have e := dr_next (b := b) hx
        have HNum := Lib.hid (num_next (b := b) hx)
        by_cases hp : pv < b
        · have g1 : decide (pv < b) = true := decide_eq_true hp
          have hbel : belC b (some (pv, ps)) = true := decide_eq_true hp
          rw [hbel, if_pos rfl] at e
          rw [hbel] at HNum
          have HM2 := Lib.hid (show m + 1 = numC (L.take (k + 1)) b from by rw [HNum.out, ← HM.out]; rfl)
          have HT := dq_two HD.out.blk (dqC_clear (f := f) hkL hlt)
          rw [e] at HT
          have HT := Lib.hid HT
          have HB1 := Lib.hid (HD.out.blk.set_ (1 + k) (.int .i64 (-1)))
          have HB2 := Lib.hid (HD.out.blk.set_ (14 + k) (.int .i64 0))
          have hcs := HD.out.blk.cell (14 + k)
          rw [show (dqC f (drC (L.take k) b ++ L.drop k))[14 + k]? = _ from dqG_s _ _ _ hlt, sD_some hat] at hcs
          simp only at hcs
          have d1 : wr.drew.cell? ⟨cb, 1 + k, none⟩ = some (.int .i64 pv) := hcv
          have d2 : wr.drew.cell? ⟨cb, 14 + k, none⟩ = some (.int .i64 ps) := hcs
          have fa : wr.drew.frozen? ⟨cb, 1 + k, none⟩ = false := HD.out.blk.frozen (1 + k)
          have fb : wr.drew.frozen? ⟨cb, 14 + k, none⟩ = false := HD.out.blk.frozen (14 + k)
          have d3 : (wr.setCell ⟨cb, 14 + k, none⟩ (.int .i64 0)).drew.cell? ⟨cb, 1 + k, none⟩ = some (.int .i64 pv) := by
            show (wr.setCell ⟨cb, 14 + k, none⟩ (.int .i64 0)).cell? ⟨cb, 1 + k, none⟩ = _
            rw [HB2.out.cell, Array.getElem?_setIfInBounds, if_neg (by omega), ← HD.out.blk.cell]; exact hcv
          have d4 : (wr.setCell ⟨cb, 1 + k, none⟩ (.int .i64 (-1))).drew.cell? ⟨cb, 14 + k, none⟩ = some (.int .i64 ps) := by
            show (wr.setCell ⟨cb, 1 + k, none⟩ (.int .i64 (-1))).cell? ⟨cb, 14 + k, none⟩ = _
            rw [HB1.out.cell, Array.getElem?_setIfInBounds, if_neg (by omega), ← HD.out.blk.cell]; exact hcs
          have fc : (wr.setCell ⟨cb, 1 + k, none⟩ (.int .i64 (-1))).drew.frozen? ⟨cb, 14 + k, none⟩ = false := HB1.out.frozen (14 + k)
          have fd : (wr.setCell ⟨cb, 14 + k, none⟩ (.int .i64 0)).drew.frozen? ⟨cb, 1 + k, none⟩ = false := HB2.out.frozen (1 + k)
          have HTu := Lib.hid (((HD.out.turn).set_ ⟨cb, 1 + k, none⟩ (.int .i64 (-1)) rfl).set_ ⟨cb, 14 + k, none⟩ (.int .i64 0) rfl)
          clear hx hat hp0 hkL e hp hbel
          go_wp2_with fail
          go_big_region
          go_wp2_with fail
          go_roundw
          case rel => exact ⟨k + 1, m + 1, by go_num, by go_num, by omega, by omega, HM2, ⟨HT.out.1.drew, HTu.out.drewN 1⟩⟩
          case measure => simp [intOf]; omega
        · have g1 : decide (pv < b) = false := decide_eq_false hp
          have hbel : belC b (some (pv, ps)) = false := decide_eq_false hp
          rw [hbel, if_neg (by simp)] at e
          rw [hbel] at HNum
          have HM2 := Lib.hid (show m = numC (L.take (k + 1)) b from by rw [HNum.out, ← HM.out]; rfl)
          have HD2 := Lib.hid (show Dd16 w cb f L b (k + 1) wr from ⟨by
            rw [← e]
            have e2 : (drC (L.take k) b ++ L.drop k).set k (some (pv, ps)) = drC (L.take k) b ++ L.drop k := by
              apply List.ext_getElem?
              intro j
              by_cases hj : k = j
              · subst hj
                rw [List.getElem?_set_self hkL, dr_at hx]
              · rw [List.getElem?_set_ne hj]
            rw [e2]
            exact HD.out.blk, HD.out.turn⟩)
          clear hx hat hp0 hkL e hp hbel
          go_wp2_with fail
          go_roundw
          case rel => exact ⟨k + 1, m, by go_num, rfl, by omega, by omega, HM2, HD2⟩
          case measure => simp [intOf]; omega
    · obtain rfl : k = 13 := by omega
      have HD2 := Lib.hid (show Blk wr cb 48 (dqC f (drC L b)) from by
        have h1 := HD.out.blk
        rw [List.take_of_length_le HN.out, List.drop_of_length_le HN.out, List.append_nil] at h1
        exact h1)
      have HM2 := Lib.hid (show m = numC L b from by
        have h1 := HM.out
        rw [List.take_of_length_le HN.out] at h1
        exact h1)
      go_wp2_with fail
      go_ret
      exact ⟨by rw [← HM2.out]; rfl, HD2.out, HD.out.turn⟩
theorem En16.end_ {b : Int} {k m : Nat} {u : Value} {wr : World} (h : En16 w L b k m u wr) (hk : L[k]? = none) : En16 w L b (k + 1) m u wr := by
  have hk : L.length ≤ k := List.getElem?_eq_none_iff.1 hk
  have e : L.take (k + 1) = L.take k := by rw [List.take_of_length_le (by omega), List.take_of_length_le hk]
  exact ⟨by rw [e]; exact h.own, by rw [e]; exact h.len, h.low⟩
theorem fC_neg {L : List Cw} (h : OkC L) {b : Int} (hb : b < 0) : ∀ (i : Nat), fC i L b = [] := by
  induction L with
  | nil => intro _; rfl
  | cons x L ih =>
    intro i
    rw [fC_cons, ih (fun p hp => h p (List.mem_cons_of_mem _ hp))]
    have : hitC b x = false := by
      cases x with
      | none => rfl
      | some p => exact decide_eq_false (by have := (h p List.mem_cons_self).1; omega)
    rw [this]
    rfl
set_option maxHeartbeats 4000000 in
theorem denough_any (h : Blk w cb 48 (dqC f L)) (f1 : 1 ≤ f) (f4 : f ≤ 4) (hok : OkC L) (hn : L.length ≤ 13) (b : Int) {q : Nat} (hq : (q : Int) = 2 * f + 1) :
    Calls Try.prog 26 #[.pointer (some ⟨cb, 0, none⟩), .int .i64 b] w fun e w' => ∃ u, e = .returned (.tuple #[u, .bool (enC L b q).isSome]) ∧ w'.ownsRow w.heap.size 35 2 u (vtsC (enC L b q)).length (voteCells (vtsC (enC L b q))) ∧ Below w.heap.size w w' := by
  obtain ⟨i0, hi0, hx0, hx1, hx2⟩ := info_parts info_vote
  have HQ := Lib.hid (fun (w : World) => (show Calls Try.prog 12 #[.int .i64 f] w fun e w' => e = .returned (.int .i64 (q : Int)) ∧ w = w' from by
    have := rquorum_any f w
    rwa [quorumS_in f1 f4, ← hq] at this))
  have HK := Lib.hid h
  have HOk := Lib.hid hok
  have HN := Lib.hid hn
  have q0 : 0 < q := by omega
  have q9 : q ≤ 9 := by omega
  clear h hok hn hq f1 f4
  go_enter Try.func26, Try.ntmps26
  go_wp2_with fail
  go_loopw [6, 7] (fun y x wr => ∃ (k m : Nat), x = .int .i64 k ∧ k ≤ 13 ∧ m ≤ q ∧ Hid (En16 w L b k m y wr)) (fun _ x _ => 13 - (intOf x).toNat)
  case atStart => exact ⟨0, 0, rfl, Nat.zero_le _, Nat.zero_le _, ⟨World.ownsRow_nil _ _ _ _, rfl, Below.refl _ _⟩⟩
  case round =>
    obtain ⟨k, m, rfl, hk, hmq, HF⟩ := hrel
    have HKr := Lib.hid (HK.out.below HF.out.low HK.out.lt)
    have c0 := HKr.out.cell 0
    rw [show (dqC f L)[0]? = _ from dqG_f _ _ _] at c0
    obtain ⟨Au, cu, rfl, -, -⟩ := own_slice HF.out.own
    by_cases hlt : k < 13
    · by_cases hm : m < q
      · have gm : decide ((m : Int) < (q : Int)) = true := decide_eq_true (by omega)
        have gm2 : decide (m < q) = true := decide_eq_true hm
        by_cases hb0 : b < 0
        · have gb : decide (0 ≤ b) = false := decide_eq_false (by omega)
          have HE := Lib.hid (show enC L b q = none from by unfold enC; rw [fC_neg HOk.out hb0 0]; exact if_neg (by simp; omega))
          clear hb0
          go_wp2_with fail
          refine (HQ.out _).mono ?_
          rintro e wq ⟨rfl, rfl⟩
          go_wp2_with fail
          refine (HQ.out _).mono ?_
          rintro e wq ⟨rfl, rfl⟩
          go_wp2_with fail
          go_ret2
          refine ⟨.slice none 0 0, ?_, ?_, HF.out.low⟩
          · rw [HE.out]; rfl
          · rw [HE.out]; exact World.ownsRow_nil _ _ _ _
        · have gb : decide (0 ≤ b) = true := decide_eq_true (by omega)
          have hcv := HKr.out.cell (1 + k)
          rw [show (dqC f L)[1 + k]? = _ from dqG_v _ _ _ hlt] at hcv
          have hki : (k : Int) < 13 := by omega
          rcases got_any L k with hx | ⟨⟨pv, ps⟩, hx⟩
          · have hat : atC L (k : Int) = none := by
              rcases hx with hx | hx
              · exact atC_out (by unfold inC; have := List.getElem?_eq_none_iff.1 hx; omega)
              · exact atC_in hx
            rw [vD_none hat] at hcv
            have HF2 := Lib.hid (show En16 w L b (k + 1) m (.slice Au m cu) wr from by
              rcases hx with hx | hx
              · exact HF.out.end_ hx
              · exact HF.out.no hx rfl)
            have gv : ((-1 : Int) == b) = false := by simp; omega
            clear hx hat hb0
            go_wp2_with fail
            refine (HQ.out _).mono ?_
            rintro e wq ⟨rfl, rfl⟩
            go_wp2_with fail
            go_roundw
            case rel => exact ⟨k + 1, m, by go_num, by omega, by omega, HF2⟩
            case measure => simp [intOf]; omega
          · have hat := atC_in hx
            rw [vD_some hat] at hcv
            simp only at hcv
            by_cases hp : pv = b
            · subst hp
              have gv : (pv == pv) = true := by simp
              have hcs := HKr.out.cell (14 + k)
              rw [show (dqC f L)[14 + k]? = _ from dqG_s _ _ _ hlt, sD_some hat] at hcs
              simp only at hcs
              have HX := Lib.hid hx
              have HBv := Lib.hid (show Below wr.heap.size wr (wr.alloc (.cells #[.int .i64 (k : Int), .int .i64 ps] 35)) from (Below.refl _ _).alloc (Nat.le_refl _) _)
              have HOv := Lib.hid (below_own HF.out.own HBv.out (Nat.le_refl _))
              have HNv := Lib.hid (show Has (wr.alloc (.cells #[.int .i64 (k : Int), .int .i64 ps] 35)) (wr.heap.size + 1) (some ⟨wr.heap.size, 0, none⟩) (voteCells [⟨(k : Int), ps⟩]) from Has.fresh wr #[.int .i64 (k : Int), .int .i64 ps] 35)
              have HOne := Lib.hid (voteCells_one [⟨(k : Int), ps⟩])
              have HM1 := Lib.hid (show m + 1 ≤ maxLen by unfold maxLen; omega)
              have HM2 := Lib.hid (show (m + 1) * 16 ≤ 140737488355328 by omega)
              have HM3 := Lib.hid (show w.heap.size ≤ (wr.alloc (.cells #[.int .i64 (k : Int), .int .i64 ps] 35)).heap.size from Nat.le_trans HF.out.low.size HBv.out.size)
              clear hx hat hb0
              go_wp2_with fail
              refine (HQ.out _).mono ?_
              rintro e wq ⟨rfl, rfl⟩
              go_wp2_with (at_builtin; refine wpList_apps rfl _ _ 31 rfl w.heap.size 35 i0 _ 2 16 Try.underlying31 hi0 hx0 hx1 hx2 rfl (by decide) _ _ _ rfl HOv.out _ (some ⟨wr.heap.size, 0, none⟩) 1 1 (voteCells [⟨(k : Int), ps⟩]) rfl rfl HNv.out (fun h => nomatch h) HOne.out HM1.out HM2.out HM3.out ?_)
              intro u2 w10 ho hg _
              have HF10 := Lib.hid (HF.out.yes HX.out rfl ho ((HF.out.low.trans (HBv.out.mono HF.out.low.size)).grown hg HM3.out (fun k hk => (HOv.out.lt k hk).1)))
              clear ho hg
              go_wp2_with fail
              go_roundw
              case rel => exact ⟨k + 1, m + 1, by go_num, by omega, by omega, HF10⟩
              case measure => simp [intOf]; omega
            · have gv : (pv == b) = false := by simp [hp]
              have HF2 := Lib.hid (HF.out.no hx (decide_eq_false hp))
              clear hx hat hb0 hp
              go_wp2_with fail
              refine (HQ.out _).mono ?_
              rintro e wq ⟨rfl, rfl⟩
              go_wp2_with fail
              go_roundw
              case rel => exact ⟨k + 1, m, by go_num, by omega, by omega, HF2⟩
              case measure => simp [intOf]; omega
      · obtain rfl : m = q := by omega
        have HE := Lib.hid (show enC L b m = some (fC 0 (L.take k) b) from enC_here HF.out.len)
        have gm : decide ((m : Int) < (m : Int)) = false := decide_eq_false (by omega)
        have gm2 : decide (m < m) = false := decide_eq_false (by omega)
        have g0 : ((m : Int) == 0) = false := by simp; omega
        have g02 : (m == 0) = false := by simp; omega
        go_wp2_with fail
        refine (HQ.out _).mono ?_
        rintro e wq ⟨rfl, rfl⟩
        go_wp2_with fail
        refine (HQ.out _).mono ?_
        rintro e wq ⟨rfl, rfl⟩
        go_wp2_with fail
        go_ret2
        refine ⟨.slice Au m cu, ?_, ?_, HF.out.low⟩
        · rw [HE.out]; rfl
        · rw [HE.out]
          show World.ownsRow _ _ _ _ _ (fC 0 (L.take k) b).length (voteCells (fC 0 (L.take k) b))
          rw [HF.out.len]
          exact HF.out.own
    · obtain rfl : k = 13 := by omega
      by_cases hm : m < q
      · have HE := Lib.hid (show enC L b q = none from enC_end (k := 13) (by rw [HF.out.len]; exact hm) HN.out)
        have gm : decide ((m : Int) < (q : Int)) = true := decide_eq_true (by omega)
        have gm2 : decide (m < q) = true := decide_eq_true hm
        go_wp2_with fail
        refine (HQ.out _).mono ?_
        rintro e wq ⟨rfl, rfl⟩
        go_wp2_with fail
        go_ret2
        refine ⟨.slice none 0 0, ?_, ?_, HF.out.low⟩
        · rw [HE.out]; rfl
        · rw [HE.out]; exact World.ownsRow_nil _ _ _ _
      · obtain rfl : m = q := by omega
        have HE := Lib.hid (show enC L b m = some (fC 0 (L.take 13) b) from enC_here HF.out.len)
        have gm : decide ((m : Int) < (m : Int)) = false := decide_eq_false (by omega)
        have gm2 : decide (m < m) = false := decide_eq_false (by omega)
        have g0 : ((m : Int) == 0) = false := by simp; omega
        have g02 : (m == 0) = false := by simp; omega
        go_wp2_with fail
        refine (HQ.out _).mono ?_
        rintro e wq ⟨rfl, rfl⟩
        go_wp2_with fail
        go_ret2
        refine ⟨.slice Au m cu, ?_, ?_, HF.out.low⟩
        · rw [HE.out]; rfl
        · rw [HE.out]
          show World.ownsRow _ _ _ _ _ (fC 0 (L.take 13) b).length (voteCells (fC 0 (L.take 13) b))
          rw [HF.out.len]
          exact HF.out.own
end
end Go.Proofs.Ytfbipebijelfjaa
