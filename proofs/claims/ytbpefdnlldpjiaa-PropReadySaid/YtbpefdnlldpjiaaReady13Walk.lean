/- The walk of PropReady: it returns true for any int, request and ints. -/
import Derived.Test.YtbpefdnlldpjiaaPropClone
import Derived.Test.YtbpefdnlldpjiaaPropOne
import Derived.Test.YtbpefdnlldpjiaaRefBallot
namespace Go.Proofs.Ytbpefdnlldpjiaa
open Go.RowKit Go.Sort
set_option linter.unusedSimpArgs false

/-- The state of a round: so many nodes have told the request. -/
structure Rd (w : World) (tb gb hb : Nat) (f : Int) (r : Rq) (i m : Nat) (bs : List Bool) (sc : Int) (v : Value) (wr : World) : Prop where
  rt : Rt w tb v f 2 (oneL (decide (0 < i)) ⟨r, bs, sc⟩) wr
  box : Blk wr gb 25 #[.int .i64 r.cl, .int .i64 r.tm, .int .i64 r.kd, .int .i64 r.ky, .int .i64 r.vl, .int .i64 r.sg]
  arr : Blk wr hb 53 (boolCells bs)
  len : bs.length = 13
  cnt : cnt bs = m
  zero : i = 0 → bs = noMarks ∧ sc = 0
  lb : w.heap.size ≤ hb
section
variable {w wr wz : World} {tb gb hb i m : Nat} {f : Int} {r : Rq} {bs : List Bool} {sc : Int} {v : Value}
theorem Rd.below (h : Rd w tb gb hb f r i m bs sc v wr) (hb' : Below wr.heap.size wr wz) : Rd w tb gb hb f r i m bs sc v wz :=
  ⟨h.rt.below hb', h.box.below hb' h.box.lt, h.arr.below hb' h.arr.lt, h.len, h.cnt, h.zero, h.lb⟩
theorem Rd.blank (h : Rd w tb gb hb f r i m bs sc v wr) (e : decide (0 < i) = false) : (⟨r, bs, sc⟩ : Tr) = blank r := by
  obtain ⟨h1, h2⟩ := h.zero (by simpa using e)
  rw [h1, h2]; rfl
theorem Rd.put (h : Rd w tb gb hb f r i m bs sc v wr) {y : Tr} (hp : TbPost wr tb v f 2 (oneL true y) wz) (hy : y.rq = r) (hyb : y.bs = bs) : ∃ v', Rd w tb gb hb f r (i + 1) m bs y.sc v' wz := by
  have h1 := hp.far h.rt.tab h.box (by decide) (by decide)
  have h2 := hp.far h.rt.tab h.arr (by decide) (by decide)
  obtain ⟨v', h3⟩ := h.rt.post hp
  refine ⟨v', ⟨?_, h1, h2, h.len, h.cnt, fun e => absurd e (by omega), h.lb⟩⟩
  rw [decide_eq_true (Nat.succ_pos i), ← hy, ← hyb]
  exact h3
theorem Rd.mark (h : Rd w tb gb hb f r i m bs sc v wr) {y : Tr} {k : Nat} (hf : bs[k]? = some false) (hp : TbPost wr tb v f 2 (oneL true y) wz) (hy : y.rq = r) (hyb : y.bs = bs.set k true) : ∃ v', Rd w tb gb hb f r (i + 1) (m + 1) (bs.set k true) y.sc v' (wz.setCell ⟨hb, k, none⟩ (.bool true)) := by
  have h1 := hp.far h.rt.tab h.box (by decide) (by decide)
  have h2 := hp.far h.rt.tab h.arr (by decide) (by decide)
  obtain ⟨v', h3⟩ := h.rt.post hp
  have hne : gb ≠ hb := h1.ne_ h2 (by decide)
  have hoff := h3.tab.off h2 (by decide) (by decide)
  have ht : Turn (fun j => j = hb) wz (wz.setCell ⟨hb, k, none⟩ (.bool true)) := (Turn.refl _ _).set_ _ _ rfl
  refine ⟨v', ⟨?_, h1.far hne _, ?_, by rw [List.length_set, h.len], by rw [cnt_set hf, h.cnt], fun e => absurd e (by omega), h.lb⟩⟩
  · rw [decide_eq_true (Nat.succ_pos i), ← hy, ← hyb]
    refine ⟨h3.tab.kept ht (fun j hj e => hoff (e ▸ hj)), h3.lt, h3.lg, ?_⟩
    exact h3.low.trans (ht.below h3.low.size (fun j hj e => by have := h.lb; omega))
  · rw [← boolCells_set]
    exact h2.set_ k _
end
theorem bool_cell {w : World} {g k : Nat} {bs : List Bool} {b : Bool} (h : Blk w g 53 (boolCells bs)) (hb : bs[k]? = some b) : w.cell? ⟨g, k, none⟩ = some (.bool b) := by rw [h.cell, boolCells_get hb]
set_option maxRecDepth 100000 in
set_option maxHeartbeats 4000000 in
theorem propReady_walk (a0 : Int) (r0 : Rq) (A : Option Addr) (c : Nat) (zs : List Int) (w : World) (w0 : (Lit.int .i64 a0).wf = true) (w1 : r0.Fits) (w2 : IsList .i64 w A zs c) :
    Calls Try.prog 5 #[.int .i64 a0, .agg #[.int .i64 r0.cl, .int .i64 r0.tm, .int .i64 r0.kd, .int .i64 r0.ky, .int .i64 r0.vl, .int .i64 r0.sg], .slice A zs.length c] w fun e w' => e = .returned (.bool true) ∧ Below w.heap.size w w' := by
  obtain ⟨b0, b1⟩ := wf_i64 w0
  obtain ⟨b2, b3⟩ := wf_i64 w1.cl
  have HW4 := Lib.hid (fun w => within_any a0 4 (by omega) (by omega) b0 b1 w)
  have HW2 := Lib.hid (fun w => within_any r0.cl 2 (by omega) (by omega) b2 b3 w)
  have hf1 : 0 ≤ a0 % 4 ∧ a0 % 4 < 4 := ⟨Int.emod_nonneg _ (by omega), Int.emod_lt_of_pos _ (by omega)⟩
  have hc1 : 0 ≤ r0.cl % 2 ∧ r0.cl % 2 < 2 := ⟨Int.emod_nonneg _ (by omega), Int.emod_lt_of_pos _ (by omega)⟩
  obtain ⟨ocl, tm, kd, ky, vl, sg⟩ := r0
  simp only at HW2 hc1 ⊢
  obtain ⟨q, hq⟩ : ∃ q : Int, a0 % 4 = q := ⟨_, rfl⟩
  obtain ⟨p, hp⟩ : ∃ p : Int, ocl % 2 = p := ⟨_, rfl⟩
  rw [hq] at HW4 hf1
  rw [hp] at HW2 hc1
  have HL := Lib.hid w2
  clear w0 w1 w2 b0 b1 b2 b3 hq hp
  obtain ⟨r, rfl, rfl, rfl, rfl, rfl, rfl⟩ : ∃ r : Rq, p = r.cl ∧ tm = r.tm ∧ kd = r.kd ∧ ky = r.ky ∧ vl = r.vl ∧ sg = r.sg := ⟨⟨p, tm, kd, ky, vl, sg⟩, rfl, rfl, rfl, rfl, rfl, rfl⟩
  have HNo := Lib.hid (fun (w : World) => (show Calls Try.prog 20 #[.int .i64 (1 + q)] w fun e w' => e = .returned (.int .i64 (3 * (1 + q) + 1)) ∧ w' = w from by
    have := rnodes_any (1 + q) w
    rw [nodesS_in (by omega) (by omega)] at this
    exact this.mono fun _ _ he => ⟨he.1, he.2.symm⟩))
  go_enter Try.func5, Try.ntmps5
  go_wp2_with fail
  refine (HW4.out _).mono ?_
  rintro e wa ⟨rfl, rfl⟩
  go_wp2_with fail
  refine (HW2.out _).mono ?_
  rintro e wa ⟨rfl, rfl⟩
  go_wp2_with fail
  have HB1 := Lib.hid (show Below w.heap.size w (w.alloc (.cells #[.int .i64 r.cl, .int .i64 r.tm, .int .i64 r.kd, .int .i64 r.ky, .int .i64 r.vl, .int .i64 r.sg] 25)) from (Below.refl _ _).alloc (Nat.le_refl _) _)
  refine (rt_new (f := 1 + q) (n := 2) (by omega) (by omega) (by omega) (by omega) w _ HB1.out).mono ?_
  rintro e w2 ⟨tb, rfl, hR, hbN, -⟩
  have HR := Lib.hid hR
  have HBox := Lib.hid ((Blk.new w 25 #[.int .i64 r.cl, .int .i64 r.tm, .int .i64 r.kd, .int .i64 r.ky, .int .i64 r.vl, .int .i64 r.sg]).below hbN (by simp))
  clear hR hbN
  have HRd := Lib.hid (fun (cs : Array Value) (hcs : cs = boolCells noMarks) => show Rd w tb w.heap.size w2.heap.size (1 + q) r 0 0 noMarks 0 (.slice none 0 0) (w2.alloc (.cells cs 53)) from
    ⟨HR.out.below ((Below.refl _ _).alloc (Nat.le_refl _) (.cells cs 53)), HBox.out.alloc _, hcs ▸ Blk.new _ _ _, rfl, rfl, fun _ => ⟨rfl, rfl⟩, HR.out.low.size⟩)
  obtain ⟨n, hn⟩ : ∃ n, zs.length = n := ⟨_, rfl⟩
  have HN := Lib.hid hn
  simp only [hn]
  have HM := Lib.hid (show n ≤ maxLen by rw [← hn]; exact Nat.le_trans HL.out.le HL.out.most)
  clear hn HBox HR HB1
  go_wp2_with fail
  go_loopw [10, 11] (fun xm xi wr => ∃ (i m : Nat) (bs : List Bool) (sc : Int) (v : Value), xi = .int .i64 i ∧ xm = .int .i64 m ∧ i ≤ n ∧ i ≤ 60 ∧ m ≤ i ∧ Hid (Rd w tb w.heap.size w2.heap.size (1 + q) r i m bs sc v wr)) (fun _ xi _ => n - (intOf xi).toNat)
  case atStart => exact ⟨0, 0, noMarks, 0, _, rfl, rfl, Nat.zero_le _, Nat.zero_le _, Nat.le_refl _, HRd.out _ (by rfl)⟩
  case round =>
    obtain ⟨i, m, bs, sc, v, rfl, rfl, hi, hi60, hmi, HS⟩ := hrel
    by_cases hlt : i < n ∧ i < 60
    · obtain ⟨hlt1, hlt2⟩ := hlt
      obtain ⟨ad, z, rfl, hab, hcz, -, hzm⟩ := (HS.out.rt.has HL.out.has).int (show i < zs.length by rw [HN.out]; exact hlt1)
      obtain ⟨y1, y2⟩ := wf_i64 (HL.out.fits z hzm)
      have hz0 := Int.emod_nonneg z (show (3 * (1 + q) + 1) ≠ 0 by omega)
      have hz1 := Int.emod_lt_of_pos z (show 0 < 3 * (1 + q) + 1 by omega)
      have HWz := Lib.hid (fun (w : World) => (show Calls Try.prog 9 #[.int .i64 z, .int .i64 (3 * (1 + q) + 1)] w fun e w' => e = .returned (.int .i64 (z % (3 * (1 + q) + 1))) ∧ w' = w from
        (within_any z (3 * (1 + q) + 1) (by omega) (by omega) y1 y2 w).mono fun _ _ he => ⟨he.1, he.2.symm⟩))
      obtain ⟨k, hk⟩ : ∃ k : Nat, z % (3 * (1 + q) + 1) = k := ⟨(z % (3 * (1 + q) + 1)).toNat, by omega⟩
      rw [hk] at HWz hz1
      have hk13 : k < 13 := by omega
      obtain ⟨b, hb⟩ := got (l := bs) (k := k) (by rw [HS.out.len]; exact hk13)
      have HB9 := Lib.hid hb
      have HArg := Lib.hid (show 0 ≤ r.cl ∧ r.cl < 2 ∧ 0 ≤ (k : Int) ∧ (k : Int) < 3 * (1 + q) + 1 from ⟨hc1.1, hc1.2, by omega, hz1⟩)
      have HPT := Lib.hid (one_put (f := 1 + q) (n := 2) (x := ⟨r, bs, sc⟩) (r := r) (nd := k) (ck := i) rfl HS.out.blank HArg.out)
      have hki : (k : Int) < 13 := by omega
      have hi3 : (i : Int) < 60 := by omega
      have hlt3 : (i : Int) < (n : Int) := by omega
      clear hk hz0 hz1 y1 y2 hzm hb hab
      have hz9 := fun (m : Nat) => (show (wr.drewN m).cell? (ad.add i) = some (.int .i64 z) from hcz)
      go_wp2_with fail
      go_quiet ((first | (go_at_call 20; exact Calls.quiet_of_same (HNo.out _)) | (go_at_call 9; exact Calls.quiet_of_same (HWz.out _))))
      have HS2 := Lib.hid (HS.out.below (wz := wr.drewN nq) ⟨rfl, rfl, rfl, Nat.le_refl _, fun _ _ => rfl⟩)
      obtain ⟨w2', hw2'⟩ : ∃ w2', wr.drewN nq = w2' := ⟨_, rfl⟩
      rw [hw2'] at HS2 ⊢
      clear hw2' hcz hz9 HS HWz
      have e0 := HS2.out.box.cell 0
      have e1 := HS2.out.box.cell 1
      have e2 := HS2.out.box.cell 2
      have e3 := HS2.out.box.cell 3
      have e4 := HS2.out.box.cell 4
      have e5 := HS2.out.box.cell 5
      simp only [List.getElem?_toArray, List.getElem?_cons_zero, List.getElem?_cons_succ] at e0 e1 e2 e3 e4 e5
      go_wp2_with fail
      refine (pput_any HS2.out.rt.tab r k i).mono ?_
      rintro e w3 ⟨rfl, hp⟩
      rw [HPT.out] at hp ⊢
      clear e0 e1 e2 e3 e4 e5
      obtain ⟨b1, hb1⟩ : ∃ b1, (!decide (0 < i)) = b1 := ⟨_, rfl⟩
      have hb2 : ((i : Int) == 0) = b1 := by rw [← hb1]; by_cases e : 0 < i <;> (simp [e]; omega)
      simp only [hb1]
      have HB2 := Lib.hid hb2
      clear hb1 hb2
      cases b
      · rw [mark_new hk13 HB9.out] at hp ⊢
        by_cases hc : (cnt bs : Int) = 1 + q
        · rw [if_pos hc] at hp ⊢
          obtain ⟨v3, hS3⟩ := HS2.out.mark HB9.out hp rfl rfl
          have a3 := hp.far HS2.out.rt.tab HS2.out.arr (by decide) (by decide)
          have h3 := bool_cell a3 HB9.out
          have f3 := a3.frozen k
          have HS3 := Lib.hid hS3
          have hcm : (m : Int) = 1 + q := by rw [← HS2.out.cnt]; exact hc
          clear hp a3 hS3 hc
          have HSi := Lib.hid (show sinceT (1 + q) (oneL (decide (0 < i + 1)) ⟨r, bs.set k true, (i : Int)⟩) r = if decide (1 + q < ((m + 1 : Nat) : Int)) = true then ((i : Int), true) else (0, false) from by
            rw [decide_eq_true (Nat.succ_pos i), one_since rfl]
            congr 2
            unfold isReady
            rw [HS3.out.cnt]
            exact decide_eq_decide.2 (by omega))
          have g1 : ((m : Int) + 1 == 1 + q + 1) = true := by simp; omega
          obtain ⟨w4, hw4⟩ : ∃ w4, w3.setCell ⟨w2.heap.size, k, none⟩ (.bool true) = w4 := ⟨_, rfl⟩
          rw [hw4] at HS3
          have e0 := HS3.out.box.cell 0
          have e1 := HS3.out.box.cell 1
          have e2 := HS3.out.box.cell 2
          have e3 := HS3.out.box.cell 3
          have e4 := HS3.out.box.cell 4
          have e5 := HS3.out.box.cell 5
          simp only [List.getElem?_toArray, List.getElem?_cons_zero, List.getElem?_cons_succ] at e0 e1 e2 e3 e4 e5
          go_wp2_with fail
          refine (psince_any HS3.out.rt.tab r).mono ?_
          rintro e w5 ⟨rfl, hb5⟩
          rw [HSi.out]
          have HS5 := Lib.hid (HS3.out.below hb5)
          clear hb5 e0 e1 e2 e3 e4 e5
          obtain ⟨d, hd⟩ : ∃ d, decide (1 + q < ((m + 1 : Nat) : Int)) = d := ⟨_, rfl⟩
          simp only [hd]
          have g3 : decide (1 + q < (m : Int) + 1) = d := by first | exact hd | (rw [← hd]; exact decide_eq_decide.2 (by omega))
          have g2 := HB2.out
          have HLn := Lib.hid (plen_any HS5.out.rt.tab)
          rw [show (oneL (decide (0 < i + 1)) (⟨r, bs.set k true, (i : Int)⟩ : Tr)).length = 1 by rw [decide_eq_true (Nat.succ_pos i)]; rfl] at HLn
          clear hd
          cases d
          · exfalso
            have := of_decide_eq_false g3
            omega
          · go_wp2_with fail
            refine HLn.out.mono ?_
            rintro e w6 ⟨rfl, rfl⟩
            go_wp2_with fail
            go_roundw
            case rel => exact ⟨i + 1, (m + 1 : Nat), bs.set k true, (i : Int), v3, by go_num, by first | go_num | (congr 1; omega), by omega, by omega, by omega, HS5⟩
            case measure => simp [intOf]; omega
        · rw [if_neg hc] at hp ⊢
          obtain ⟨v3, hS3⟩ := HS2.out.mark HB9.out hp rfl rfl
          have a3 := hp.far HS2.out.rt.tab HS2.out.arr (by decide) (by decide)
          have h3 := bool_cell a3 HB9.out
          have f3 := a3.frozen k
          have HS3 := Lib.hid hS3
          have hcm : ¬ (m : Int) = 1 + q := by rw [← HS2.out.cnt]; exact hc
          clear hp a3 hS3 hc
          have HSi := Lib.hid (show sinceT (1 + q) (oneL (decide (0 < i + 1)) ⟨r, bs.set k true, sc⟩) r = if decide (1 + q < ((m + 1 : Nat) : Int)) = true then (sc, true) else (0, false) from by
            rw [decide_eq_true (Nat.succ_pos i), one_since rfl]
            congr 2
            unfold isReady
            rw [HS3.out.cnt]
            exact decide_eq_decide.2 (by omega))
          have g1 : ((m : Int) + 1 == 1 + q + 1) = false := by simp; omega
          obtain ⟨w4, hw4⟩ : ∃ w4, w3.setCell ⟨w2.heap.size, k, none⟩ (.bool true) = w4 := ⟨_, rfl⟩
          rw [hw4] at HS3
          have e0 := HS3.out.box.cell 0
          have e1 := HS3.out.box.cell 1
          have e2 := HS3.out.box.cell 2
          have e3 := HS3.out.box.cell 3
          have e4 := HS3.out.box.cell 4
          have e5 := HS3.out.box.cell 5
          simp only [List.getElem?_toArray, List.getElem?_cons_zero, List.getElem?_cons_succ] at e0 e1 e2 e3 e4 e5
          go_wp2_with fail
          refine (psince_any HS3.out.rt.tab r).mono ?_
          rintro e w5 ⟨rfl, hb5⟩
          rw [HSi.out]
          have HS5 := Lib.hid (HS3.out.below hb5)
          clear hb5 e0 e1 e2 e3 e4 e5
          obtain ⟨d, hd⟩ : ∃ d, decide (1 + q < ((m + 1 : Nat) : Int)) = d := ⟨_, rfl⟩
          simp only [hd]
          have g3 : decide (1 + q < (m : Int) + 1) = d := by first | exact hd | (rw [← hd]; exact decide_eq_decide.2 (by omega))
          have g2 := HB2.out
          have HLn := Lib.hid (plen_any HS5.out.rt.tab)
          rw [show (oneL (decide (0 < i + 1)) (⟨r, bs.set k true, sc⟩ : Tr)).length = 1 by rw [decide_eq_true (Nat.succ_pos i)]; rfl] at HLn
          clear hd
          cases d
          · go_wp2_with fail
            refine HLn.out.mono ?_
            rintro e w6 ⟨rfl, rfl⟩
            go_wp2_with fail
            go_roundw
            case rel => exact ⟨i + 1, (m + 1 : Nat), bs.set k true, sc, v3, by go_num, by first | go_num | (congr 1; omega), by omega, by omega, by omega, HS5⟩
            case measure => simp [intOf]; omega
          · go_wp2_with fail
            refine HLn.out.mono ?_
            rintro e w6 ⟨rfl, rfl⟩
            go_wp2_with fail
            go_roundw
            case rel => exact ⟨i + 1, (m + 1 : Nat), bs.set k true, sc, v3, by go_num, by first | go_num | (congr 1; omega), by omega, by omega, by omega, HS5⟩
            case measure => simp [intOf]; omega
      · rw [mark_had hk13 HB9.out] at hp ⊢
        obtain ⟨v3, hS3⟩ := HS2.out.put hp rfl rfl
        have h3 := bool_cell hS3.arr HB9.out
        have HS3 := Lib.hid hS3
        clear hp hS3
        have HSi := Lib.hid (show sinceT (1 + q) (oneL (decide (0 < i + 1)) ⟨r, bs, sc⟩) r = if decide (1 + q < (m : Int)) = true then (sc, true) else (0, false) from by
          rw [decide_eq_true (Nat.succ_pos i), one_since rfl]
          congr 2
          unfold isReady
          rw [HS3.out.cnt]
          exact decide_eq_decide.2 (by omega))
        have e0 := HS3.out.box.cell 0
        have e1 := HS3.out.box.cell 1
        have e2 := HS3.out.box.cell 2
        have e3 := HS3.out.box.cell 3
        have e4 := HS3.out.box.cell 4
        have e5 := HS3.out.box.cell 5
        simp only [List.getElem?_toArray, List.getElem?_cons_zero, List.getElem?_cons_succ] at e0 e1 e2 e3 e4 e5
        go_wp2_with fail
        refine (psince_any HS3.out.rt.tab r).mono ?_
        rintro e w5 ⟨rfl, hb5⟩
        rw [HSi.out]
        have HS5 := Lib.hid (HS3.out.below hb5)
        clear hb5 e0 e1 e2 e3 e4 e5
        obtain ⟨d, hd⟩ : ∃ d, decide (1 + q < (m : Int)) = d := ⟨_, rfl⟩
        simp only [hd]
        have g3 : decide (1 + q < (m : Int)) = d := by first | exact hd | (rw [← hd]; exact decide_eq_decide.2 (by omega))
        have g2 := HB2.out
        have HLn := Lib.hid (plen_any HS5.out.rt.tab)
        rw [show (oneL (decide (0 < i + 1)) (⟨r, bs, sc⟩ : Tr)).length = 1 by rw [decide_eq_true (Nat.succ_pos i)]; rfl] at HLn
        clear hd
        cases d
        · go_wp2_with fail
          refine HLn.out.mono ?_
          rintro e w6 ⟨rfl, rfl⟩
          go_wp2_with fail
          go_roundw
          case rel => exact ⟨i + 1, m, bs, sc, v3, by go_num, by first | go_num | (congr 1; omega), by omega, by omega, by omega, HS5⟩
          case measure => simp [intOf]; omega
        · go_wp2_with fail
          refine HLn.out.mono ?_
          rintro e w6 ⟨rfl, rfl⟩
          go_wp2_with fail
          go_roundw
          case rel => exact ⟨i + 1, m, bs, sc, v3, by go_num, by first | go_num | (congr 1; omega), by omega, by omega, by omega, HS5⟩
          case measure => simp [intOf]; omega
    · have HW := Lib.hid (fun w => wakes13_any w)
      have HE := Lib.hid HS.out.rt.low
      by_cases h1 : i < n
      · have h2 : i = 60 := by omega
        subst h2
        go_wp2_with fail
        refine (HW.out _).mono ?_
        rintro e w9 ⟨rfl, hb9⟩
        go_wp2_with fail
        go_ret
        exact ⟨rfl, HE.out.trans (hb9.mono HE.out.size)⟩
      · have h2 : decide ((i : Int) < (n : Int)) = false := decide_eq_false (by omega)
        go_wp2_with fail
        refine (HW.out _).mono ?_
        rintro e w9 ⟨rfl, hb9⟩
        go_wp2_with fail
        go_ret
        exact ⟨rfl, HE.out.trans (hb9.mono HE.out.size)⟩
end Go.Proofs.Ytbpefdnlldpjiaa
