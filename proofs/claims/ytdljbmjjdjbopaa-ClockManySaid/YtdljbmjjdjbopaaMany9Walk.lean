/- The walk of ClockMany. -/
import Derived.Test.YtdljbmjjdjbopaaManyMath
import Derived.Test.YtdljbmjjdjbopaaSets9Walk
namespace Go.Proofs.Ytdljbmjjdjbopaa
open Go.RowKit Go.Maps

theorem got9 {α : Type} {l : List α} {k : Nat} (h : k < l.length) : ∃ x, l[k]? = some x := ⟨_, List.getElem?_eq_getElem h⟩
theorem tick_cell {w wr : World} {A : Option Addr} {c i : Nat} {zs : List Int} (h : IsList .i64 w A zs c) (hb : Below w.heap.size w wr) (hi : i < zs.length) : ∃ ad, A = some ad ∧ wr.cell? (ad.add i) = some (.int .i64 (zs.getD i 0)) ∧ fit (zs.getD i 0) := by
  obtain ⟨z, hz⟩ := got9 hi
  obtain ⟨ad, hA, _, hc⟩ := (h.has.below hb (Nat.le_refl _)) i (.int .i64 z) (by simp [hz])
  have e : zs.getD i 0 = z := by simp [List.getD, hz]
  rw [e]
  exact ⟨ad, hA, hc, h.fits z (List.mem_of_getElem? hz)⟩
theorem row_cell {w : World} {B n c k : Nat} {A : Option Addr} {l : List Int} {p : Int} (h : w.ownsRow B 3 1 (.slice A n c) n (ics l)) (hk : l[k]? = some p) : ∃ ad, A = some ad ∧ w.cell? (ad.add k) = some (.int .i64 p) := by
  obtain ⟨ad, hA, _, hc⟩ := Has.own h k _ (ics_at hk)
  exact ⟨ad, hA, hc⟩
theorem maxLen_int : maxLen ≤ 9223372036854775807 := by decide
theorem wrap_small {m n : Nat} (h : m < n) (hn : n ≤ maxLen) : wrap64 (m : Int) = m := by
  have := maxLen_int
  exact IntWalk.wrap64_in _ ⟨by omega, by omega⟩
theorem wrap_next {m n : Nat} (h : m < n) (hn : n ≤ maxLen) : wrap64 ((m : Int) + 1) = (m : Int) + 1 := by
  have := maxLen_int
  exact IntWalk.wrap64_in _ ⟨by omega, by omega⟩
theorem meas_next {k n : Nat} (h : k < n) : n - (intOf (Value.int .i64 ((k : Int) + 1))).toNat < n - (intOf (Value.int .i64 (k : Int))).toNat := by simp [intOf]; omega
set_option maxRecDepth 100000 in
set_option maxHeartbeats 8000000 in
theorem clockMany_walk (a0 : Option Addr) (c0 : Nat) (z0 : List Int) (ev : Int) (w : World) (w0 : IsList .i64 w a0 z0 c0) (w1 : fit ev) :
    Calls Try.prog 3 #[.slice a0 z0.length c0, .int .i64 ev] w fun e w' => e = .returned (.bool true) ∧ Below w.heap.size w w' := by
  have HL := Lib.hid w0
  have KE := Lib.hid (fun w => within_any ev 7 (by omega) (by omega) (wf_i64 w1).1 (wf_i64 w1).2 w)
  obtain ⟨e0, e1⟩ := small_mod ev 7 (by omega)
  obtain ⟨y, hy⟩ : ∃ y : Nat, ev % 7 = y := ⟨(ev % 7).toNat, by omega⟩
  rw [hy] at KE e0 e1
  have hm : 100 < maxLen := by unfold maxLen; omega
  have HM := Lib.hid hm
  clear w0 w1 hy hm
  by_cases hn : 30 < z0.length
  · go_enter Try.func3, Try.ntmps3
    go_wp2_with fail
    refine (cs_new w _ (Below.refl _ _)).mono ?_
    rintro e w1 ⟨cb, bm, rfl, h1⟩
    have H1 := Lib.hid h1.low
    clear h1
    go_wp2_with fail
    refine (wakes9_any _).mono ?_
    rintro e w4 ⟨rfl, hb⟩
    go_wp2_with fail
    go_ret
    exact ⟨rfl, H1.out.trans (hb.mono H1.out.size)⟩
  · go_enter Try.func3, Try.ntmps3
    go_wp2_with fail
    refine (cs_new w _ (Below.refl _ _)).mono ?_
    rintro e w1 ⟨cb, bm, rfl, h1⟩
    have H1 := Lib.hid (show Cs w cb bm 0 0 (St z0 (List.replicate 0 false)) w1 from by rw [List.replicate_zero, ← St_new]; exact h1)
    clear h1
    go_wp2_with fail
    refine (KE.out _).mono ?_
    rintro e u1 ⟨rfl, rfl⟩
    go_wp2_with fail
    go_loopw [30] (fun v wr => ∃ k : Nat, v = .int .i64 (k : Int) ∧ k ≤ z0.length ∧ Hid (Cs w cb bm 0 k (St z0 (List.replicate k false)) wr)) (fun v _ => z0.length - (intOf v).toNat)
    case atStart => exact ⟨0, rfl, Nat.zero_le _, H1⟩
    case round =>
      obtain ⟨k, rfl, hk, HK⟩ := hrel
      by_cases hlt : k < z0.length
      · obtain ⟨ad, rfl, hc, hf⟩ := tick_cell HL.out HK.out.low hlt
        have KW := Lib.hid (fun w => within_any (z0.getD k 0) 40 (by omega) (by omega) (wf_i64 hf).1 (wf_i64 hf).2 w)
        have HT := Lib.hid (show 1 + z0.getD k 0 % 40 = tk z0 k from rfl)
        obtain ⟨t0, t1⟩ := tk_in z0 k
        obtain ⟨q, hq⟩ : ∃ q, z0.getD k 0 % 40 = q := ⟨_, rfl⟩
        rw [hq] at KW HT
        obtain ⟨z, hz⟩ : ∃ z, z0.getD k 0 = z := ⟨_, rfl⟩
        rw [hz] at KW hc
        have KS := Lib.hid (HK.out.set (p := (k : Int)) (t := tk z0 k) (by have := HM.out; omega) (by omega) (WalkArith.wf_i64 (by omega)) t0 (by omega))
        rw [St_more, ← HT.out] at KS
        rw [← HT.out] at t0 t1
        clear hf hq hz
        go_wp2_with fail
        refine (KW.out _).mono ?_
        rintro e u1 ⟨rfl, rfl⟩
        go_wp2_with fail
        refine KS.out.mono ?_
        rintro e w2 ⟨rfl, h2⟩
        have H2 := Lib.hid h2
        clear h2 KS
        go_wp2_with fail
        go_roundw
        case rel => exact ⟨k + 1, by go_num, by omega, H2⟩
        case measure => simp [intOf]; omega
      · obtain rfl : k = z0.length := by omega
        have hmk := run_make_bools z0.length (by omega)
        go_wp2_with fail
        have HGs := Lib.hid (show Mn w cb bm wr.heap.size z0 ((0 : Nat) : Int) (List.replicate z0.length false) (List.replicate z0.length false) (wr.alloc (.cells (bcs (List.replicate z0.length false)) 4)) from
          ⟨HK.out.below ((Below.refl _ _).alloc (Nat.le_refl _) _), Blk.new wr _ _, by simp, by simp, HK.out.low.size, (by have := HK.out.ck.lt.1; omega), (by have := HK.out.ck.lt.2; omega)⟩)
        have HF := Lib.hid (show (0 : Nat) = 48 → ∀ i, i < (List.replicate z0.length false).length → (List.replicate z0.length false)[i]? = some true from fun h => by omega)
        obtain ⟨bs0, hbs0⟩ : ∃ b, List.replicate z0.length false = b := ⟨_, rfl⟩
        obtain ⟨gs, hgs⟩ : ∃ g, wr.heap.size = g := ⟨_, rfl⟩
        rw [hbs0] at HGs HF ⊢
        rw [hgs] at HGs ⊢
        clear hmk hbs0 hgs HK
        go_loopw [8] (fun v wr => ∃ (j : Nat) (bs : List Bool), v = .int .i64 ((j : Int) + 1) ∧ j ≤ 48 ∧ Hid (Mn w cb bm gs z0 (j : Int) bs bs wr) ∧ Hid (j = 48 → ∀ i, i < bs.length → bs[i]? = some true)) (fun v _ => 50 - (intOf v).toNat)
        case atStart => exact ⟨0, bs0, rfl, Nat.zero_le _, HGs, HF⟩
        case round =>
          obtain ⟨j, bs, rfl, hj, HJ, HA⟩ := hrel
          by_cases hlt2 : j < 48
          · obtain ⟨r, hr⟩ : ∃ r, ((j : Int) + 1).tmod (1 + (y : Int)) = r := ⟨_, rfl⟩
            by_cases hd : r ≠ 0 ∧ j + 1 ≠ 48
            · obtain ⟨hr0, hj48⟩ := hd
              have hb1 : (r != 0) = true := by simpa using hr0
              have hb2 : ((j : Int) + 1 != 48) = true := by simp; omega
              go_wp2_with fail
              refine (HJ.out.tick (by omega) (by omega)).mono ?_
              rintro e w3 ⟨rfl, h3⟩
              have H3 := Lib.hid (show Mn w cb bm gs z0 ((j + 1 : Nat) : Int) bs bs w3 from h3)
              have HA2 := Lib.hid (show j + 1 = 48 → ∀ i, i < bs.length → bs[i]? = some true from fun h => absurd h hj48)
              clear h3
              go_wp2_with fail
              go_roundw
              case rel => exact ⟨j + 1, bs, by go_num, by omega, H3, HA2⟩
              case measure => simp [intOf]; omega
            · have hb : (r != 0) = false ∨ ((r != 0) = true ∧ ((j : Int) + 1 != 48) = false) := by
                by_cases h0 : r = 0
                · exact Or.inl (by simp [h0])
                · exact Or.inr ⟨by simpa using h0, by simp; omega⟩
              clear hd
              rcases hb with hb1 | ⟨hb1, hb2⟩
              all_goals
                go_wp2_with fail
                refine (HJ.out.tick (by omega) (by omega)).mono ?_
                rintro e w3 ⟨rfl, h3⟩
                have H3 := Lib.hid (show Mn w cb bm gs z0 ((j + 1 : Nat) : Int) bs bs w3 from h3)
                clear h3
                go_wp2_with fail
                refine (H3.out.due (by omega)).mono ?_
                rintro e w4 ⟨A, c, l, rfl, hrow, hdu, h4⟩
                have HDu := Lib.hid hdu
                have HLe := Lib.hid (show bs.length = z0.length from H3.out.len)
                have H4 := Lib.hid (show Md w cb bm gs z0 ((j + 1 : Nat) : Int) bs w3.heap.size A c l 0 w4 from ⟨by rw [List.take_zero, mark_nil]; exact h4, hrow, H3.out.seen.lt⟩)
                clear hdu hrow h4 H3
                go_wp2_with fail
                go_loopw [65] (fun v wr => ∃ k : Nat, v = .int .i64 (k : Int) ∧ k ≤ l.length ∧ Hid (Md w cb bm gs z0 ((j + 1 : Nat) : Int) bs w3.heap.size A c l k wr)) (fun v _ => l.length - (intOf v).toNat)
                case atStart => exact ⟨0, rfl, Nat.zero_le _, H4⟩
                case round =>
                  obtain ⟨k, rfl, hk2, HD⟩ := hrel
                  by_cases hlt3 : k < l.length
                  · obtain ⟨p, hp⟩ := got9 hlt3
                    obtain ⟨i, rfl, hi, hmk, htk⟩ := due_at HDu.out hp
                    obtain ⟨ad2, rfl, hc2⟩ := row_cell HD.out.row hp
                    have hcs := (HD.out.mn.seen.cell i).trans (bcs_get hmk)
                    obtain ⟨ad, rfl, hct, hf⟩ := tick_cell HL.out HD.out.mn.cs.low (show i < z0.length by have := HLe.out; omega)
                    have KW := Lib.hid (fun w => within_any (z0.getD i 0) 40 (by omega) (by omega) (wf_i64 hf).1 (wf_i64 hf).2 w)
                    have htk2 : 1 + z0.getD i 0 % 40 ≤ (j : Int) + 1 := by have e : tk z0 i = 1 + z0.getD i 0 % 40 := rfl; omega
                    have hq0 : 0 ≤ z0.getD i 0 % 40 := by omega
                    obtain ⟨q, hq⟩ : ∃ q, z0.getD i 0 % 40 = q := ⟨_, rfl⟩
                    rw [hq] at KW htk2 hq0
                    obtain ⟨z, hz⟩ : ∃ z, z0.getD i 0 = z := ⟨_, rfl⟩
                    rw [hz] at KW hct
                    have KQ := Lib.hid (fun w => (KW.out w).mono (R' := fun e w' => e = .returned (.int .i64 q) ∧ w' = w) (fun _ _ he => ⟨he.1, he.2.symm⟩))
                    have HLm := Lib.hid (show l.length ≤ maxLen by obtain ⟨_, _, _, h1, h2⟩ := own_slice HD.out.row; omega)
                    have HI := Lib.hid hi
                    have HP := Lib.hid hp
                    have hin : i < z0.length := by have := HLe.out; omega
                    clear hf hq hz hmk htk
                    have hfz := HD.out.mn.seen.frozen i
                    by_cases hk0 : k = 0
                    · subst hk0
                      have hc3 : wr.cell? ad2 = some (.int .i64 i) := by have h := hc2; simpa [Addr.add] using h
                      clear hc2
                      go_wp2_with fail
                      have hwq : wrap64 (1 + q) = 1 + q := IntWalk.wrap64_in _ ⟨by omega, by omega⟩
                      have hg0 : decide ((i : Int) < 0) = false := by rw [decide_eq_false_iff_not]; omega
                      have hg1 : decide ((z0.length : Int) ≤ (i : Int)) = false := by rw [decide_eq_false_iff_not]; omega
                      have hg6 : decide (z0.length ≤ i) = false := by rw [decide_eq_false_iff_not]; omega
                      have hg2 : decide ((j : Int) + 1 < 1 + q) = false := by rw [decide_eq_false_iff_not]; omega
                      go_big_quiet ((go_at_call 9; exact Calls.quiet_of_same (KQ.out _)))
                      go_wp2_with fail
                      have HD2 : Hid (Md w cb bm gs z0 ((j + 1 : Nat) : Int) bs w3.heap.size (some ad2) c l 1 ((wr.drewN nq).setCell ⟨gs, i, none⟩ (.bool true))) := Lib.hid ((HD.out.drewN nq).next HP.out HI.out)
                      exact ⟨⟨1, rfl, by omega, HD2⟩, by show l.length - 1 < l.length - 0; omega⟩
                    · obtain ⟨m, hkm⟩ : ∃ m, k = m + 1 := ⟨k - 1, by omega⟩
                      obtain ⟨p', hp'⟩ := got9 (l := l) (k := m) (by omega)
                      obtain ⟨i', rfl, _, _, _⟩ := due_at HDu.out hp'
                      have hup := due_prev HDu.out (hkm ▸ HP.out) hp'
                      obtain ⟨ad3, he3, hc3⟩ := row_cell HD.out.row hp'
                      cases he3
                      clear hp' hk0
                      go_wp2_with fail
                      have hwq : wrap64 (1 + q) = 1 + q := IntWalk.wrap64_in _ ⟨by omega, by omega⟩
                      have hg0 : decide ((i : Int) < 0) = false := by rw [decide_eq_false_iff_not]; omega
                      have hg1 : decide ((z0.length : Int) ≤ (i : Int)) = false := by rw [decide_eq_false_iff_not]; omega
                      have hg6 : decide (z0.length ≤ i) = false := by rw [decide_eq_false_iff_not]; omega
                      have hg2 : decide ((j : Int) + 1 < 1 + q) = false := by rw [decide_eq_false_iff_not]; omega
                      have hg3 : decide ((i : Int) ≤ (i' : Int)) = false := by rw [decide_eq_false_iff_not]; omega
                      have hg7 : decide (i ≤ i') = false := by rw [decide_eq_false_iff_not]; omega
                      have hg4 : decide ((0 : Int) < (k : Int)) = true := by rw [decide_eq_true_iff]; omega
                      have hg5 : decide (0 < k) = true := by rw [decide_eq_true_iff]; omega
                      have hm1 : (k : Int) - 1 = (m : Int) := by omega
                      have hml : m < l.length := by omega
                      have hwm : wrap64 (m : Int) = m := wrap_small hml HLm.out
                      have HLt := Lib.hid hlt3
                      have HWk : Hid (wrap64 ((k : Int) + 1) = (k : Int) + 1) := Lib.hid (wrap_next hlt3 HLm.out)
                      clear hkm
                      go_big_quiet ((go_at_call 9; exact Calls.quiet_of_same (KQ.out _)))
                      go_wp2_with fail
                      have HD2 : Hid (Md w cb bm gs z0 ((j + 1 : Nat) : Int) bs w3.heap.size (some ad2) c l (k + 1) ((wr.drewN nq).setCell ⟨gs, i, none⟩ (.bool true))) := Lib.hid ((HD.out.drewN nq).next HP.out HI.out)
                      go_roundw
                      case rel => exact ⟨k + 1, by rw [HWk.out]; go_num, HLt.out, HD2⟩
                      case measure => rw [HWk.out]; exact meas_next HLt.out
                  · obtain rfl : k = l.length := by omega
                    have HM4 := Lib.hid (show Mn w cb bm gs z0 ((j + 1 : Nat) : Int) (mark bs l) (mark bs l) wr from by have h := HD.out.mn; rw [List.take_length] at h; exact h)
                    have HSe := Lib.hid (fun i (hi : i < z0.length) (ht : tk z0 i ≤ ((j + 1 : Nat) : Int)) => all_seen HDu.out (i := i) (by have := HLe.out; omega) ht)
                    clear HD HDu
                    go_wp2_with fail
                    go_loopw [129] (fun v wr => ∃ k : Nat, v = .int .i64 (k : Int) ∧ k ≤ z0.length ∧ Hid (Mn w cb bm gs z0 ((j + 1 : Nat) : Int) (mark bs l) (mark bs l) wr)) (fun v _ => z0.length - (intOf v).toNat)
                    case atStart => exact ⟨0, rfl, Nat.zero_le _, HM4⟩
                    case round =>
                      obtain ⟨k, rfl, hk4, HM5⟩ := hrel
                      by_cases hlt5 : k < z0.length
                      · obtain ⟨ad, rfl, hct, hf⟩ := tick_cell HL.out HM5.out.cs.low hlt5
                        have KW := Lib.hid (fun w => within_any (z0.getD k 0) 40 (by omega) (by omega) (wf_i64 hf).1 (wf_i64 hf).2 w)
                        have HSk := Lib.hid (fun h => HSe.out k hlt5 h)
                        have HTk := Lib.hid (show tk z0 k = 1 + z0.getD k 0 % 40 from rfl)
                        obtain ⟨q0, q1⟩ := tk_in z0 k
                        obtain ⟨q, hq⟩ : ∃ q, z0.getD k 0 % 40 = q := ⟨_, rfl⟩
                        rw [hq] at KW HTk
                        have hq0 : 1 ≤ 1 + q := by have := HTk.out; omega
                        have hq1 : 1 + q ≤ 40 := by have := HTk.out; omega
                        obtain ⟨z, hz⟩ : ∃ z, z0.getD k 0 = z := ⟨_, rfl⟩
                        rw [hz] at KW hct
                        clear hf hq hz q0 q1
                        by_cases hqt : 1 + q ≤ (j : Int) + 1
                        · have hcs := (HM5.out.seen.cell k).trans (bcs_get (HSk.out (by rw [HTk.out]; omega)))
                          go_wp2_with fail
                          refine (KW.out _).mono ?_
                          rintro e u1 ⟨rfl, rfl⟩
                          go_wp2_with fail
                          go_roundw
                          case rel => exact ⟨k + 1, by go_num, by omega, HM5⟩
                          case measure => simp [intOf]; omega
                        · go_wp2_with fail
                          refine (KW.out _).mono ?_
                          rintro e u1 ⟨rfl, rfl⟩
                          go_wp2_with fail
                          go_roundw
                          case rel => exact ⟨k + 1, by go_num, by omega, HM5⟩
                          case measure => simp [intOf]; omega
                      · obtain rfl : k = z0.length := by omega
                        have HA2 := Lib.hid (show j + 1 = 48 → ∀ i, i < (mark bs l).length → (mark bs l)[i]? = some true from fun h i hi => HSe.out i (by rw [mark_len] at hi; have := HLe.out; omega) (by have := (tk_in z0 i).2; omega))
                        go_wp2_with fail
                        go_roundw
                        case rel => exact ⟨j + 1, mark bs l, by go_num, by omega, HM5, HA2⟩
                        case measure => simp [intOf]; omega
          · obtain rfl : j = 48 := by omega
            go_wp2_with fail
            refine (now_any HJ.out.cs.ck).mono ?_
            rintro e w3 ⟨rfl, rfl⟩
            go_wp2_with fail
            refine (HJ.out.due (by omega)).mono ?_
            rintro e w4 ⟨A, c, l, rfl, _, hd, h4⟩
            obtain rfl := none_left hd (HA.out (by simp))
            have H4 := Lib.hid h4.cs.low
            clear hd h4
            go_wp2_with fail
            refine (wakes9_any _).mono ?_
            rintro e w5 ⟨rfl, hb⟩
            go_wp2_with fail
            go_ret
            exact ⟨rfl, H4.out.trans (hb.mono H4.out.size)⟩
end Go.Proofs.Ytdljbmjjdjbopaa
