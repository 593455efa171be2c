/- The walk of InstGoes: it returns true for any ints. -/
import Derived.Test.YtpdmflhbmimhgaaInstMk
namespace Go.Proofs.Ytpdmflhbmimhgaa
open Go.RowKit
set_option linter.unusedSimpArgs false

/-- The first j places are as A says, the others as B. -/
def fnL (A B : Nat → Px) (j : Nat) : List Px := (List.range 16).map fun i => if i < j then A (i + 1) else B (i + 1)
theorem fnL_len (A B : Nat → Px) (j : Nat) : (fnL A B j).length = 16 := by simp [fnL]
theorem fnL_at {A B : Nat → Px} {i : Nat} (j : Nat) (h : i < 16) : (fnL A B j)[i]? = some (if i < j then A (i + 1) else B (i + 1)) := by
  unfold fnL
  rw [List.getElem?_map, List.getElem?_range h]
  rfl
theorem fnL_set {A B : Nat → Px} {j : Nat} (h : j < 16) : (fnL A B j).set j (A (j + 1)) = fnL A B (j + 1) := by
  apply List.ext_getElem?
  intro i
  rw [List.getElem?_set]
  by_cases hi : i < 16
  · rw [fnL_at _ hi, fnL_at _ hi]
    by_cases hij : j = i
    · subst hij
      rw [if_pos rfl, if_pos (by rw [fnL_len]; exact h), if_pos (show j < j + 1 by omega)]
    · rw [if_neg hij]
      by_cases h2 : i < j
      · rw [if_pos h2, if_pos (show i < j + 1 by omega)]
      · rw [if_neg h2, if_neg (show ¬ i < j + 1 by omega)]
  · rw [if_neg (by omega), List.getElem?_eq_none (by rw [fnL_len]; omega), List.getElem?_eq_none (by rw [fnL_len]; omega)]
theorem nextAt_count {L : List Px} {m : Nat} (h1 : ∀ i, i < m → i < 16 → ∃ p, L[i]? = some p ∧ p.s.ch.isSome = true) (h2 : ∀ i, m ≤ i → i < 16 → ∃ p, L[i]? = some p ∧ p.s.ch.isSome = false) (hm : m ≤ 16) : nextAt L 16 = m + 1 := by
  have h3 : ∀ k, k ≤ 16 → nextAt L k = min k m + 1 := by
    intro k
    induction k with
    | zero => intro _; simp [nextAt]
    | succ k ih =>
      intro hk
      have ih := ih (by omega)
      rcases Nat.lt_or_ge k m with h | h
      · obtain ⟨p, hp, hc⟩ := h1 k h (by omega)
        rw [nextAt_step hp, if_pos hc]
        omega
      · obtain ⟨p, hp, hc⟩ := h2 k h (by omega)
        rw [nextAt_step hp, if_neg (by rw [hc]; simp), ih]
        omega
  rw [h3 16 (Nat.le_refl _)]
  omega
theorem certsL_count {L : List Px} {m : Nat} (hL : L.length = 16) (h1 : ∀ i, i < m → i < 16 → ∃ p c, L[i]? = some p ∧ p.pr = some c) (h2 : ∀ i, m ≤ i → i < 16 → ∃ p, L[i]? = some p ∧ p.pr = none) (hm : m ≤ 16) : (certsL L).length = m := by
  have h3 : ∀ k, k ≤ 16 → (certsL (L.take k)).length = min k m := by
    intro k
    induction k with
    | zero => intro _; simp [certsL]
    | succ k ih =>
      intro hk
      have ih := ih (by omega)
      rcases Nat.lt_or_ge k m with h | h
      · obtain ⟨p, c, hp, hc⟩ := h1 k h (by omega)
        rw [certsL_yes hp hc, List.length_append, ih]
        simp only [List.length_cons, List.length_nil]
        omega
      · obtain ⟨p, hp, hc⟩ := h2 k h (by omega)
        rw [certsL_no hp hc, ih]
        omega
  have := h3 16 (Nat.le_refl _)
  rw [List.take_of_length_le (by omega)] at this
  omega
def oR (k : Nat) : Rq := ⟨0, (k : Int), 0, 0, 0, 0⟩
def oP (k : Nat) : Vo := ⟨true, 1, [oR k]⟩
def oQ (k : Nat) : Vo := ⟨true, 2, [oR k]⟩
def oS (n k i i' : Nat) : Sx := ⟨some [oR k], fillV i n (oP k), fillV i' n (oQ k)⟩
def pvO (n q k : Nat) : List Vt := vtsOf ((oS n k q q).prep q)
def cvO (n q k : Nat) : List Vt := votOf ((oS n k q q).com q)
theorem o_pre (n k : Nat) : (Sx.new n).pre [oR k] = oS n k 0 0 := rfl
theorem o_v4 {n i : Nat} (k : Nat) (h : i < n) : (oS n k i i).vote 4 (i : Int) 1 [oR k] = (true, oS n k (i + 1) i) := by
  unfold Sx.vote oS
  rw [if_pos rfl]
  have := fillV_vote h (z := oP k) rfl
  simp only [show (oP k).sg = 1 from rfl, show (oP k).bt = [oR k] from rfl] at this
  simp only [this]
theorem o_v5 {n i : Nat} (k : Nat) (h : i < n) : (oS n k (i + 1) i).vote 5 (i : Int) 2 [oR k] = (true, oS n k (i + 1) (i + 1)) := by
  unfold Sx.vote oS
  rw [if_neg (by omega), if_pos rfl]
  have := fillV_vote h (z := oQ k) rfl
  simp only [show (oQ k).sg = 2 from rfl, show (oQ k).bt = [oR k] from rfl] at this
  simp only [this]
theorem o_prep0 {n i q : Nat} (k : Nat) (h : i < q) : (oS n k i i).prep q = none := decS_fill (z := oP k) rfl (Or.inl h)
theorem o_prep {n q : Nat} (k : Nat) : (oS n k q q).prep q = some (pvO n q k) ∧ (pvO n q k).length = q := by
  obtain ⟨v, h1, h2⟩ := decS_full (n := n) (q := q) (z := oP k) rfl (Nat.le_refl _)
  have h3 : (oS n k q q).prep q = some v := h1
  unfold pvO
  rw [h3]
  exact ⟨rfl, h2⟩
theorem o_com {n q : Nat} (k : Nat) (h0 : 0 < q) (hn : n < 2 * q) (hi : q ≤ n) : (oS n k q q).com q = some ([oR k], cvO n q k) ∧ (cvO n q k).length = q := by
  obtain ⟨v, h1, h2⟩ := comS_full (z := oQ k) rfl (Nat.le_refl q) h0 hn hi
  have h3 : (oS n k q q).com q = some ([oR k], v) := h1
  unfold cvO
  rw [h3]
  exact ⟨rfl, h2⟩
def oA (vw : Int) (n q k : Nat) : Px := ⟨oS n k q q, some ⟨vw, 0, (k : Int), [oR k], pvO n q k⟩, some ⟨vw, 0, (k : Int), [oR k], cvO n q k⟩⟩
def oB (n : Nat) (_ : Nat) : Px := ⟨Sx.new n, none, none⟩
def oX (f vw : Int) (n q j : Nat) : Ix := ⟨f, 0, 1, vw, true, fnL (oA vw n q) (oB n) j⟩
def oY (f vw : Int) (n q j i i' : Nat) (pr : Option Ct) : Ix := (oX f vw n q j).put j ⟨oS n (j + 1) i i', pr, none⟩
theorem oX_new (f : Int) (n q : Nat) : Ix.new f 0 1 n = oX f 0 n q 0 := rfl
theorem oX_inst (f v : Int) (n q : Nat) : ((Ix.new f 0 1 n).gone n v 16).inst [] 0 = oX f v n q 0 := rfl
theorem oX_at {f vw : Int} {n q j : Nat} (h : j < 16) : (oX f vw n q j).L[j]? = some (oB n (j + 1)) := by
  show (fnL _ _ _)[j]? = _
  rw [fnL_at _ h, if_neg (Nat.lt_irrefl _)]
theorem oY_at {f vw : Int} {n q j : Nat} (i i' : Nat) (pr : Option Ct) (h : j < 16) : (oY f vw n q j i i' pr).L[j]? = some ⟨oS n (j + 1) i i', pr, none⟩ := by
  show ((fnL _ _ _).set j _)[j]? = _
  rw [List.getElem?_set_self (by rw [fnL_len]; exact h)]
theorem oX_done {f vw : Int} {n q j : Nat} (h : j ≤ 16) : doneL (oX f vw n q j).L = j := by
  refine doneL_count (fun i hi => ⟨oA vw n q (i + 1), ?_, rfl⟩) ?_
  · show (fnL _ _ _)[i]? = _
    rw [fnL_at _ (by omega), if_pos hi]
  · rcases Nat.lt_or_ge j 16 with h1 | h1
    · exact Or.inr ⟨oB n (j + 1), oX_at h1, rfl⟩
    · exact Or.inl (by show j = (fnL _ _ _).length; rw [fnL_len]; omega)
theorem oY_done {f vw : Int} {n q j i i' : Nat} {pr : Option Ct} (h : j < 16) : doneL (oY f vw n q j i i' pr).L = j := (doneL_set (p' := ⟨oS n (j + 1) i i', pr, none⟩) (oX_at h) rfl).trans (oX_done (by omega))
theorem oY_next {f vw : Int} {n q j i i' : Nat} {pr : Option Ct} (h : j < 16) : nextAt (oY f vw n q j i i' pr).L 16 = j + 1 + 1 := by
  refine nextAt_count (fun t ht h16 => ?_) (fun t ht h16 => ?_) (by omega)
  · by_cases htj : t = j
    · subst htj
      exact ⟨_, oY_at i i' pr h, rfl⟩
    · refine ⟨oA vw n q (t + 1), ?_, rfl⟩
      show ((fnL _ _ _).set j _)[t]? = _
      rw [List.getElem?_set_ne (fun e => htj e.symm), fnL_at _ h16, if_pos (by omega)]
  · refine ⟨oB n (t + 1), ?_, rfl⟩
    show ((fnL _ _ _).set j _)[t]? = _
    rw [List.getElem?_set_ne (by omega), fnL_at _ h16, if_neg (by omega)]
theorem oX_certs {f vw : Int} {n q j : Nat} (h : j ≤ 16) : (certsL (oX f vw n q j).L).length = j := by
  refine certsL_count (fnL_len _ _ _) (fun i hi h16 => ⟨oA vw n q (i + 1), _, ?_, rfl⟩) (fun i hi h16 => ⟨oB n (i + 1), ?_, rfl⟩) h
  · show (fnL _ _ _)[i]? = _
    rw [fnL_at _ h16, if_pos hi]
  · show (fnL _ _ _)[i]? = _
    rw [fnL_at _ h16, if_neg (by omega)]
theorem oX_far {w wr : World} {ib n q j : Nat} {f vw : Int} (h : Ri w ib (oX f vw n q j) wr) (hj : j < 16) (A : Option Addr) (m c : Nat) :
    Calls Try.prog 15 #[.pointer (some ⟨ib, 0, none⟩), .int .i64 ((j : Int) + 1 + 1), .slice A m c] wr fun e w' => e = .returned (.bool false) ∧ Below wr.heap.size wr w' := by
  have hd := oX_done (f := f) (vw := vw) (n := n) (q := q) (j := j) (by omega)
  rcases Nat.lt_or_ge (j + 1) 16 with h1 | h1
  · exact r_pre_far h (k := j + 1) h1 rfl (by rw [hd]; show (j : Int) + 1 < ((j + 1 : Nat) : Int) + 1; omega) A m c
  · exact r_pre_no h (sq := (j : Int) + 1 + 1) (Or.inr (by omega)) A m c
set_option maxRecDepth 100000 in
set_option maxHeartbeats 16000000 in
theorem instGoes_walk (a0 a1 a2 : Int) (w : World) (w0 : (Lit.int .i64 a0).wf = true) (w1 : (Lit.int .i64 a1).wf = true) (w2 : (Lit.int .i64 a2).wf = true) :
    Calls Try.prog 8 #[.int .i64 a0, .int .i64 a1, .int .i64 a2] w fun e w' => e = .returned (.bool true) ∧ Below w.heap.size w w' := by
  obtain ⟨b0, b1⟩ := wf_i64 w0
  obtain ⟨b2, b3⟩ := wf_i64 w1
  obtain ⟨b4, b5⟩ := wf_i64 w2
  have HW0 := Lib.hid (fun w => within_any a0 4 (by omega) (by omega) b0 b1 w)
  have HW1 := Lib.hid (fun w => within_any a1 16 (by omega) (by omega) b2 b3 w)
  have HW2 := Lib.hid (fun w => within_any a2 13 (by omega) (by omega) b4 b5 w)
  obtain ⟨p, hp⟩ : ∃ p : Nat, a0 % 4 = p := ⟨(a0 % 4).toNat, by omega⟩
  obtain ⟨m, hm⟩ : ∃ p : Nat, a1 % 16 = p := ⟨(a1 % 16).toNat, by omega⟩
  obtain ⟨v, hv⟩ : ∃ p : Nat, a2 % 13 = p := ⟨(a2 % 13).toNat, by omega⟩
  have q0 : (p : Int) < 4 := by omega
  have q1 : (m : Int) < 16 := by omega
  have q2 : (v : Int) < 13 := by omega
  rw [hp] at HW0
  rw [hm] at HW1
  rw [hv] at HW2
  obtain ⟨q, hq⟩ : ∃ q : Nat, (q : Int) = 2 * (1 + (p : Int)) + 1 := ⟨2 * p + 3, by omega⟩
  obtain ⟨n, hn⟩ : ∃ n : Nat, (n : Int) = 3 * (1 + (p : Int)) + 1 := ⟨3 * p + 4, by omega⟩
  have HQ := Lib.hid (fun (w : World) => (show Calls Try.prog 34 #[.int .i64 (1 + p)] w fun e w' => e = .returned (.int .i64 (q : Int)) ∧ w = w' from by
    have := rquorum_any (1 + p) w
    rwa [quorumS_in (by omega) (by omega), ← hq] at this))
  have HQn := Lib.hid (show q ≤ n ∧ n < 2 * q ∧ 0 < q ∧ q ≤ 9 from ⟨by omega, by omega, by omega, by omega⟩)
  have HNew := Lib.hid (fun w => r_new (f := 1 + (p : Int)) (num := 0) (ah := 1) (n := n) (by omega) (by omega) (by omega) (by omega) (by omega) (by omega) hn w w (Below.refl _ _))
  have HQq := Lib.hid hq
  have HNn := Lib.hid hn
  obtain ⟨N, hN⟩ : ∃ N : Nat, (1 : Int) + (m : Int) = (N : Int) := ⟨m + 1, by omega⟩
  have hN16 : N ≤ 16 := by omega
  have HNN := Lib.hid hN
  clear w0 w1 w2 b0 b1 b2 b3 b4 b5 hp hm hv hq hn hN
  go_enter Try.func8, Try.ntmps8
  go_wp2_with fail
  refine (HW0.out _).mono ?_
  rintro e wa ⟨rfl, rfl⟩
  go_wp2_with fail
  refine (HW1.out _).mono ?_
  rintro e wa ⟨rfl, rfl⟩
  go_wp2_with fail
  refine (HW2.out _).mono ?_
  rintro e wa ⟨rfl, rfl⟩
  go_wp2_with fail
  rw [HNN.out]
  clear q1 HNN
  have hNi : (N : Int) ≤ 16 := by omega
  refine (HNew.out _).mono ?_
  rintro e w1 ⟨ib, rfl, hR, -⟩
  have HR0 := Lib.hid hR
  clear hR
  by_cases hv0 : 0 < v
  · have hv1 : (0 : Int) < (v : Int) := by omega
    have HLv := Lib.hid (r_leave HR0.out (v := v) hv1 (by omega) (n := n) HNn.out)
    clear hv0
    go_wp2_with fail
    refine HLv.out.mono ?_
    rintro e w2 ⟨rfl, hr, -⟩
    have HR1 := Lib.hid hr
    have HL2 := Lib.hid (r_leave_no HR1.out (v := v) (Or.inl (Int.le_refl _)))
    clear hr HLv HR0
    go_wp2_with fail
    refine HL2.out.mono ?_
    rintro e wa ⟨rfl, rfl⟩
    go_wp2_with fail
    refine (r_pre_no HR1.out (sq := 1) (Or.inl rfl) none 0 0).mono ?_
    rintro e w3 ⟨rfl, hb3⟩
    have HR3 := Lib.hid (HR1.out.below hb3)
    clear hb3 HL2
    go_wp2_with fail
    refine (r_install_nil HR3.out rfl).mono ?_
    rintro e w4 ⟨rfl, hr, -⟩
    have HR4 := Lib.hid (show Ri w ib (oX (1 + (p : Int)) v n q 0) w4 from hr)
    clear hr
    go_wp2_with fail
    refine (r_install_on HR4.out rfl none 0 0).mono ?_
    rintro e wa ⟨rfl, rfl⟩
    go_wp2_with fail
    go_loopw [9] (fun y wr => ∃ j : Nat, y = .int .i64 ((j : Int) + 1) ∧ j ≤ N ∧ Hid (Ri w ib (oX (1 + (p : Int)) v n q j) wr)) (fun y _ => N + 1 - (intOf y).toNat)
    case atStart => exact ⟨0, rfl, Nat.zero_le _, HR4⟩
    case round =>
      clear HR4
      obtain ⟨j, rfl, hj, HR⟩ := hrel
      by_cases hlt : j < N
      · have hlti : (j : Int) + 1 ≤ (N : Int) := by omega
        have hj16 : j < 16 := by omega
        have HB1 := Lib.hid (show Blk (wr.alloc (.cells #[.int .i64 0, .int .i64 ((j : Int) + 1), .int .i64 0, .int .i64 0, .int .i64 0, .int .i64 0] 41)) wr.heap.size 41 _ from Blk.new wr _ _)
        have HR1 := Lib.hid (HR.out.below (wz := wr.alloc (.cells #[.int .i64 0, .int .i64 ((j : Int) + 1), .int .i64 0, .int .i64 0, .int .i64 0, .int .i64 0] 41)) ((Below.refl _ _).alloc (Nat.le_refl _) _))
        obtain ⟨g2, hg2⟩ : ∃ y, wr.heap.size = y := ⟨_, rfl⟩
        rw [hg2] at HB1
        have HG2 := Lib.hid hg2
        clear hg2
        go_wp2_with fail
        rw [HG2.out]
        refine (oX_far HR1.out hj16 _ 1 1).mono ?_
        rintro e w5 ⟨rfl, hb5⟩
        have HR5 := Lib.hid (HR1.out.below hb5)
        have HB5 := Lib.hid (HB1.out.below hb5 HB1.out.lt)
        clear hb5 HR1 HB1 HR
        have HP := Lib.hid (r_pre (k := j) (c := 1) HR5.out (oX_at hj16) rfl (by rw [oX_done (by omega)]; exact Int.le_refl _) (has_one (oR (j + 1)) HB5.out) (n := 1) rfl (by omega))
        go_wp2_with fail
        refine HP.out.mono ?_
        rintro e w6 ⟨rfl, hr, hkp⟩
        have HR6 := Lib.hid (show Ri w ib (oY (1 + (p : Int)) v n q j 0 0 none) w6 from hr)
        have HB6 := Lib.hid (hkp.blk HB5.out (by decide) (by decide) (by decide))
        clear hr hkp HP HR5 HB5
        have HNx := Lib.hid (r_next HR6.out)
        rw [oY_next hj16] at HNx
        go_wp2_with fail
        refine HNx.out.mono ?_
        rintro e w7 ⟨rfl, hb7⟩
        have HR7 := Lib.hid (HR6.out.below hb7)
        have HB7 := Lib.hid (HB6.out.below hb7 HB6.out.lt)
        clear hb7 HNx HR6 HB6
        have HD := Lib.hid (r_done HR7.out)
        rw [oY_done hj16] at HD
        go_wp2_with fail
        refine HD.out.mono ?_
        rintro e wa ⟨rfl, rfl⟩
        go_wp2_with fail
        go_loopw [11] (fun y wr => ∃ i : Nat, y = .int .i64 i ∧ i ≤ q ∧ Hid (Ri w ib (oY (1 + (p : Int)) v n q j i i none) wr) ∧ Hid (Blk wr g2 41 #[.int .i64 0, .int .i64 ((j : Int) + 1), .int .i64 0, .int .i64 0, .int .i64 0, .int .i64 0])) (fun y _ => q - (intOf y).toNat)
        case atStart => exact ⟨0, rfl, Nat.zero_le _, HR7, HB7⟩
        case round =>
          clear HR7 HB7 HD
          obtain ⟨i, rfl, hi, HR, HB⟩ := hrel
          by_cases hlq : i < q
          · have hlqi : (i : Int) < (q : Int) := by omega
            have hin : i < n := by have := HQn.out.1; omega
            have hi9 : (i : Int) < 9 := by have := HQn.out.2.2.2; omega
            have HPn := Lib.hid (r_prepared_no HR.out (oY_at i i none hj16) rfl HQq.out (Or.inr (o_prep0 (j + 1) hlq)))
            go_wp2_with fail
            refine (HQ.out _).mono ?_
            rintro e wq ⟨rfl, rfl⟩
            go_wp2_with fail
            refine HPn.out.mono ?_
            rintro e w5 ⟨rfl, hb5⟩
            have hal : Below w5.heap.size w5 (w5.alloc (.cells #[.int .i64 0, .int .i64 0, .int .i64 0, .slice none 0 0, .slice none 0 0] 31)) := (Below.refl _ _).alloc (Nat.le_refl _) _
            have HR5 := Lib.hid ((HR.out.below hb5).below hal)
            have HB5 := Lib.hid ((HB.out.below hb5 HB.out.lt).alloc (.cells #[.int .i64 0, .int .i64 0, .int .i64 0, .slice none 0 0, .slice none 0 0] 31))
            clear hb5 hal HPn HR HB
            have HV := Lib.hid (r_vote (k := j) (c := 1) HR5.out (oY_at i i none hj16) rfl 4 i 1 (has_one (oR (j + 1)) HB5.out) (n := 1) rfl (by omega))
            simp only [o_v4 (j + 1) hin] at HV
            go_wp2_with fail
            refine HV.out.mono ?_
            rintro e w6 ⟨rfl, hr, hkp⟩
            have HR6 := Lib.hid (show Ri w ib (oY (1 + (p : Int)) v n q j (i + 1) i none) w6 from by
              unfold oY Ix.put at hr
              simp only [set_twice] at hr
              exact hr)
            have HB6 := Lib.hid (hkp.blk HB5.out (by decide) (by decide) (by decide))
            clear hr hkp HV HR5 HB5
            have HV := Lib.hid (r_vote (k := j) (c := 1) HR6.out (oY_at (i + 1) i none hj16) rfl 5 i 2 (has_one (oR (j + 1)) HB6.out) (n := 1) rfl (by omega))
            simp only [o_v5 (j + 1) hin] at HV
            go_wp2_with fail
            refine HV.out.mono ?_
            rintro e w7 ⟨rfl, hr, hkp⟩
            have HR7 := Lib.hid (show Ri w ib (oY (1 + (p : Int)) v n q j (i + 1) (i + 1) none) w7 from by
              unfold oY Ix.put at hr
              simp only [set_twice] at hr
              exact hr)
            have HB7 := Lib.hid (hkp.blk HB6.out (by decide) (by decide) (by decide))
            clear hr hkp HV HR6 HB6
            go_wp2_with fail
            go_roundw
            case rel => exact ⟨i + 1, by go_num, by omega, HR7, HB7⟩
            case measure => simp [intOf]; omega
          · obtain rfl : i = q := by omega
            obtain ⟨hpr, hpl⟩ := o_prep (n := n) (q := i) (j + 1)
            obtain ⟨hco, hcl⟩ := o_com (n := n) (q := i) (j + 1) HQn.out.2.2.1 HQn.out.2.1 HQn.out.1
            have HPl := Lib.hid hpl
            have HCl := Lib.hid hcl
            have HCo := Lib.hid hco
            have HPy := Lib.hid (r_prepared HR.out (oY_at i i none hj16) rfl (fun c h => by cases h) HQq.out hpr rfl)
            rw [show (oY (1 + (p : Int)) v n i j i i none).vw = (v : Int) from rfl, show (oY (1 + (p : Int)) v n i j i i none).num = 0 from rfl, show [oR (j + 1)].length = 1 from rfl, HPl.out] at HPy
            have hnl : ¬ (i : Int) < (i : Int) := by omega
            clear hlq hpr hpl hco hcl
            go_wp2_with fail
            refine (HQ.out _).mono ?_
            rintro e wq ⟨rfl, rfl⟩
            go_wp2_with fail
            refine HPy.out.mono ?_
            rintro e w5 ⟨A5, d5, B5, e5, rfl, hn5, hr, hkp⟩
            have hal : Below w5.heap.size w5 (w5.alloc (.cells #[.int .i64 (v : Int), .int .i64 0, .int .i64 ((j : Int) + 1), .slice A5 1 d5, .slice B5 i e5] 31)) := (Below.refl _ _).alloc (Nat.le_refl _) _
            have HR5 := Lib.hid (show Ri w ib (oY (1 + (p : Int)) v n i j i i (some ⟨v, 0, (j : Int) + 1, [oR (j + 1)], pvO n i (j + 1)⟩)) (w5.alloc (.cells #[.int .i64 (v : Int), .int .i64 0, .int .i64 ((j : Int) + 1), .slice A5 1 d5, .slice B5 i e5] 31)) from by
              refine Ri.below ?_ hal
              unfold oY Ix.put at hr ⊢
              simp only [set_twice] at hr
              exact hr)
            have HB5 := Lib.hid ((hkp.blk HB.out (by decide) (by decide) (by decide)).alloc (.cells #[.int .i64 (v : Int), .int .i64 0, .int .i64 ((j : Int) + 1), .slice A5 1 d5, .slice B5 i e5] 31))
            have HK5 := Lib.hid (Blk.new w5 31 #[.int .i64 (v : Int), .int .i64 0, .int .i64 ((j : Int) + 1), .slice A5 1 d5, .slice B5 i e5])
            have HN5 := Lib.hid (show (w5.alloc (.cells #[.int .i64 (v : Int), .int .i64 0, .int .i64 ((j : Int) + 1), .slice A5 1 d5, .slice B5 i e5] 31)).ownsRow 0 41 6 (.slice A5 1 d5) 1 (reqCells [oR (j + 1)]) from below_own (own_to0 hn5.bt) hal (Nat.le_refl _))
            obtain ⟨g5, hg5⟩ : ∃ y, w5.heap.size = y := ⟨_, rfl⟩
            rw [hg5] at HK5
            have HG5 := Lib.hid hg5
            clear hn5 hr hkp hal HPy HR HB hg5
            have HPn := Lib.hid (r_prepared_no HR5.out (oY_at i i _ hj16) rfl HQq.out (Or.inl ⟨_, rfl, rfl⟩))
            go_wp2_with fail
            rw [HG5.out]
            refine HPn.out.mono ?_
            rintro e w6 ⟨rfl, hb6⟩
            have hal : Below w6.heap.size w6 (w6.alloc (.cells #[.int .i64 0, .int .i64 0, .int .i64 0, .slice none 0 0, .slice none 0 0] 31)) := (Below.refl _ _).alloc (Nat.le_refl _) _
            have HR6 := Lib.hid ((HR5.out.below hb6).below hal)
            have HB6 := Lib.hid ((HB5.out.below hb6 HB5.out.lt).alloc (.cells #[.int .i64 0, .int .i64 0, .int .i64 0, .slice none 0 0, .slice none 0 0] 31))
            have HK6 := Lib.hid ((HK5.out.below hb6 HK5.out.lt).alloc (.cells #[.int .i64 0, .int .i64 0, .int .i64 0, .slice none 0 0, .slice none 0 0] 31))
            have HN6 := Lib.hid (below_own (below_own HN5.out hb6 (Nat.le_refl _)) hal (Nat.le_refl _))
            clear hb6 hal HPn HR5 HB5 HK5 HN5 HG5
            have HCy := Lib.hid (r_commits HR6.out (oY_at i i _ hj16) rfl rfl HQq.out HCo.out)
            rw [show (oY (1 + (p : Int)) v n i j i i (some ⟨v, 0, (j : Int) + 1, [oR (j + 1)], pvO n i (j + 1)⟩)).vw = (v : Int) from rfl, show (oY (1 + (p : Int)) v n i j i i (some ⟨v, 0, (j : Int) + 1, [oR (j + 1)], pvO n i (j + 1)⟩)).num = 0 from rfl, show [oR (j + 1)].length = 1 from rfl, HCl.out] at HCy
            go_wp2_with fail
            refine HCy.out.mono ?_
            rintro e w7 ⟨A7, d7, B7, e7, rfl, hn7, hr, hkp⟩
            have hal : Below w7.heap.size w7 (w7.alloc (.cells #[.int .i64 (v : Int), .int .i64 0, .int .i64 ((j : Int) + 1), .slice A7 1 d7, .slice B7 i e7] 31)) := (Below.refl _ _).alloc (Nat.le_refl _) _
            have HR7 := Lib.hid (show Ri w ib (oX (1 + (p : Int)) v n i (j + 1)) (w7.alloc (.cells #[.int .i64 (v : Int), .int .i64 0, .int .i64 ((j : Int) + 1), .slice A7 1 d7, .slice B7 i e7] 31)) from by
              refine Ri.below ?_ hal
              unfold oY Ix.put oX at hr
              simp only [set_twice] at hr
              have := fnL_set (A := oA v n i) (B := oB n) hj16
              unfold oX
              rw [← this]
              exact hr)
            have HB7 := Lib.hid ((hkp.blk HB6.out (by decide) (by decide) (by decide)).alloc (.cells #[.int .i64 (v : Int), .int .i64 0, .int .i64 ((j : Int) + 1), .slice A7 1 d7, .slice B7 i e7] 31))
            have HK7 := Lib.hid ((hkp.blk HK6.out (by decide) (by decide) (by decide)).alloc (.cells #[.int .i64 (v : Int), .int .i64 0, .int .i64 ((j : Int) + 1), .slice A7 1 d7, .slice B7 i e7] 31))
            have HJ7 := Lib.hid (Blk.new w7 31 #[.int .i64 (v : Int), .int .i64 0, .int .i64 ((j : Int) + 1), .slice A7 1 d7, .slice B7 i e7])
            have HN7 := Lib.hid (below_own (hkp.own HN6.out (by decide) (by decide) (by decide)) hal (Nat.le_refl _))
            have HM7 := Lib.hid (show (w7.alloc (.cells #[.int .i64 (v : Int), .int .i64 0, .int .i64 ((j : Int) + 1), .slice A7 1 d7, .slice B7 i e7] 31)).ownsRow 0 41 6 (.slice A7 1 d7) 1 (reqCells [oR (j + 1)]) from below_own (own_to0 hn7.bt) hal (Nat.le_refl _))
            have HS1 := Lib.hid (fun m' => same_reqs_is (A := A5) (A' := some ⟨g2, 0, none⟩) (c := d5) (c' := 1) (la := 1) (lb := 1) (zs := [oR (j + 1)]) (ys := [oR (j + 1)]) (r := true) rfl rfl (by omega) (sameL_self' _) ((w7.alloc (.cells #[.int .i64 (v : Int), .int .i64 0, .int .i64 ((j : Int) + 1), .slice A7 1 d7, .slice B7 i e7] 31)).drewN m') ((has_rows HN7.out).drewN m') ((has_one (oR (j + 1)) HB7.out).drewN m'))
            have HS2 := Lib.hid (fun m' => same_reqs_is (A := A7) (A' := some ⟨g2, 0, none⟩) (c := d7) (c' := 1) (la := 1) (lb := 1) (zs := [oR (j + 1)]) (ys := [oR (j + 1)]) (r := true) rfl rfl (by omega) (sameL_self' _) ((w7.alloc (.cells #[.int .i64 (v : Int), .int .i64 0, .int .i64 ((j : Int) + 1), .slice A7 1 d7, .slice B7 i e7] 31)).drewN m') ((has_rows HM7.out).drewN m') ((has_one (oR (j + 1)) HB7.out).drewN m'))
            have HQ2 := Lib.hid (fun w => (HQ.out w).mono (R' := fun e w' => e = .returned (.int .i64 (i : Int)) ∧ w' = w) (fun _ _ he => ⟨he.1, he.2.symm⟩))
            obtain ⟨k0, -, -, k3, k4, -⟩ := blk_cells5 HK7.out
            clear hn7 hr hkp hal HCy HR6 HB6 HK6 HN6
            go_wp2_with fail
            go_quiet ((first | (go_at_call 19; with_reducible exact Calls.quiet_of (HS1.out _)) | (go_at_call 19; with_reducible exact Calls.quiet_of (HS2.out _)) | (go_at_call 34; exact Calls.quiet_of_same (HQ2.out _))))
            go_wp2_with fail
            go_roundw
            case rel => exact ⟨j + 1, by go_num, by omega, HR7.out.drewN _⟩
            case measure => simp [intOf]; omega
      · obtain rfl : j = N := by omega
        have hnl : ¬ (j : Int) + 1 ≤ (j : Int) := by omega
        have HD := Lib.hid (r_done HR.out)
        rw [oX_done hN16] at HD
        have HC := Lib.hid (r_certs HR.out)
        clear hlt
        go_wp2_with fail
        refine HD.out.mono ?_
        rintro e wa ⟨rfl, rfl⟩
        go_wp2_with fail
        refine HC.out.mono ?_
        rintro e w5 ⟨u, rfl, ⟨M, hM1, hM2, -⟩, hb5⟩
        have hMl : M.length = j := by
          have := oX_certs (f := 1 + (p : Int)) (vw := v) (n := n) (q := q) hN16
          rw [← hM1, List.length_map] at this
          exact this
        rw [hMl] at hM2
        obtain ⟨A5, d5, rfl, -, -⟩ := own_slice hM2
        have HR5 := Lib.hid (HR.out.below hb5)
        clear hM1 hM2 hMl hb5 HC
        go_wp2_with fail
        refine (wakes15_any _).mono ?_
        rintro e w4 ⟨rfl, hb4⟩
        go_wp2_with fail
        go_ret
        exact ⟨rfl, HR5.out.low.trans (hb4.mono HR5.out.low.size)⟩
  · have hv1 : ¬ (0 : Int) < (v : Int) := by omega
    have HR4 := Lib.hid (show Ri w ib (oX (1 + (p : Int)) v n q 0) w1 from by
      have : (v : Int) = 0 := by omega
      rw [this]
      exact HR0.out)
    clear HR0 hv0
    obtain ⟨w4, hw4⟩ : ∃ y, w1 = y := ⟨_, rfl⟩
    rw [hw4] at HR4 ⊢
    clear hw4
    go_wp2_with fail
    go_loopw [9] (fun y wr => ∃ j : Nat, y = .int .i64 ((j : Int) + 1) ∧ j ≤ N ∧ Hid (Ri w ib (oX (1 + (p : Int)) v n q j) wr)) (fun y _ => N + 1 - (intOf y).toNat)
    case atStart => exact ⟨0, rfl, Nat.zero_le _, HR4⟩
    case round =>
      clear HR4
      obtain ⟨j, rfl, hj, HR⟩ := hrel
      by_cases hlt : j < N
      · have hlti : (j : Int) + 1 ≤ (N : Int) := by omega
        have hj16 : j < 16 := by omega
        have HB1 := Lib.hid (show Blk (wr.alloc (.cells #[.int .i64 0, .int .i64 ((j : Int) + 1), .int .i64 0, .int .i64 0, .int .i64 0, .int .i64 0] 41)) wr.heap.size 41 _ from Blk.new wr _ _)
        have HR1 := Lib.hid (HR.out.below (wz := wr.alloc (.cells #[.int .i64 0, .int .i64 ((j : Int) + 1), .int .i64 0, .int .i64 0, .int .i64 0, .int .i64 0] 41)) ((Below.refl _ _).alloc (Nat.le_refl _) _))
        obtain ⟨g2, hg2⟩ : ∃ y, wr.heap.size = y := ⟨_, rfl⟩
        rw [hg2] at HB1
        have HG2 := Lib.hid hg2
        clear hg2
        go_wp2_with fail
        rw [HG2.out]
        refine (oX_far HR1.out hj16 _ 1 1).mono ?_
        rintro e w5 ⟨rfl, hb5⟩
        have HR5 := Lib.hid (HR1.out.below hb5)
        have HB5 := Lib.hid (HB1.out.below hb5 HB1.out.lt)
        clear hb5 HR1 HB1 HR
        have HP := Lib.hid (r_pre (k := j) (c := 1) HR5.out (oX_at hj16) rfl (by rw [oX_done (by omega)]; exact Int.le_refl _) (has_one (oR (j + 1)) HB5.out) (n := 1) rfl (by omega))
        go_wp2_with fail
        refine HP.out.mono ?_
        rintro e w6 ⟨rfl, hr, hkp⟩
        have HR6 := Lib.hid (show Ri w ib (oY (1 + (p : Int)) v n q j 0 0 none) w6 from hr)
        have HB6 := Lib.hid (hkp.blk HB5.out (by decide) (by decide) (by decide))
        clear hr hkp HP HR5 HB5
        have HNx := Lib.hid (r_next HR6.out)
        rw [oY_next hj16] at HNx
        go_wp2_with fail
        refine HNx.out.mono ?_
        rintro e w7 ⟨rfl, hb7⟩
        have HR7 := Lib.hid (HR6.out.below hb7)
        have HB7 := Lib.hid (HB6.out.below hb7 HB6.out.lt)
        clear hb7 HNx HR6 HB6
        have HD := Lib.hid (r_done HR7.out)
        rw [oY_done hj16] at HD
        go_wp2_with fail
        refine HD.out.mono ?_
        rintro e wa ⟨rfl, rfl⟩
        go_wp2_with fail
        go_loopw [11] (fun y wr => ∃ i : Nat, y = .int .i64 i ∧ i ≤ q ∧ Hid (Ri w ib (oY (1 + (p : Int)) v n q j i i none) wr) ∧ Hid (Blk wr g2 41 #[.int .i64 0, .int .i64 ((j : Int) + 1), .int .i64 0, .int .i64 0, .int .i64 0, .int .i64 0])) (fun y _ => q - (intOf y).toNat)
        case atStart => exact ⟨0, rfl, Nat.zero_le _, HR7, HB7⟩
        case round =>
          clear HR7 HB7 HD
          obtain ⟨i, rfl, hi, HR, HB⟩ := hrel
          by_cases hlq : i < q
          · have hlqi : (i : Int) < (q : Int) := by omega
            have hin : i < n := by have := HQn.out.1; omega
            have hi9 : (i : Int) < 9 := by have := HQn.out.2.2.2; omega
            have HPn := Lib.hid (r_prepared_no HR.out (oY_at i i none hj16) rfl HQq.out (Or.inr (o_prep0 (j + 1) hlq)))
            go_wp2_with fail
            refine (HQ.out _).mono ?_
            rintro e wq ⟨rfl, rfl⟩
            go_wp2_with fail
            refine HPn.out.mono ?_
            rintro e w5 ⟨rfl, hb5⟩
            have hal : Below w5.heap.size w5 (w5.alloc (.cells #[.int .i64 0, .int .i64 0, .int .i64 0, .slice none 0 0, .slice none 0 0] 31)) := (Below.refl _ _).alloc (Nat.le_refl _) _
            have HR5 := Lib.hid ((HR.out.below hb5).below hal)
            have HB5 := Lib.hid ((HB.out.below hb5 HB.out.lt).alloc (.cells #[.int .i64 0, .int .i64 0, .int .i64 0, .slice none 0 0, .slice none 0 0] 31))
            clear hb5 hal HPn HR HB
            have HV := Lib.hid (r_vote (k := j) (c := 1) HR5.out (oY_at i i none hj16) rfl 4 i 1 (has_one (oR (j + 1)) HB5.out) (n := 1) rfl (by omega))
            simp only [o_v4 (j + 1) hin] at HV
            go_wp2_with fail
            refine HV.out.mono ?_
            rintro e w6 ⟨rfl, hr, hkp⟩
            have HR6 := Lib.hid (show Ri w ib (oY (1 + (p : Int)) v n q j (i + 1) i none) w6 from by
              unfold oY Ix.put at hr
              simp only [set_twice] at hr
              exact hr)
            have HB6 := Lib.hid (hkp.blk HB5.out (by decide) (by decide) (by decide))
            clear hr hkp HV HR5 HB5
            have HV := Lib.hid (r_vote (k := j) (c := 1) HR6.out (oY_at (i + 1) i none hj16) rfl 5 i 2 (has_one (oR (j + 1)) HB6.out) (n := 1) rfl (by omega))
            simp only [o_v5 (j + 1) hin] at HV
            go_wp2_with fail
            refine HV.out.mono ?_
            rintro e w7 ⟨rfl, hr, hkp⟩
            have HR7 := Lib.hid (show Ri w ib (oY (1 + (p : Int)) v n q j (i + 1) (i + 1) none) w7 from by
              unfold oY Ix.put at hr
              simp only [set_twice] at hr
              exact hr)
            have HB7 := Lib.hid (hkp.blk HB6.out (by decide) (by decide) (by decide))
            clear hr hkp HV HR6 HB6
            go_wp2_with fail
            go_roundw
            case rel => exact ⟨i + 1, by go_num, by omega, HR7, HB7⟩
            case measure => simp [intOf]; omega
          · obtain rfl : i = q := by omega
            obtain ⟨hpr, hpl⟩ := o_prep (n := n) (q := i) (j + 1)
            obtain ⟨hco, hcl⟩ := o_com (n := n) (q := i) (j + 1) HQn.out.2.2.1 HQn.out.2.1 HQn.out.1
            have HPl := Lib.hid hpl
            have HCl := Lib.hid hcl
            have HCo := Lib.hid hco
            have HPy := Lib.hid (r_prepared HR.out (oY_at i i none hj16) rfl (fun c h => by cases h) HQq.out hpr rfl)
            rw [show (oY (1 + (p : Int)) v n i j i i none).vw = (v : Int) from rfl, show (oY (1 + (p : Int)) v n i j i i none).num = 0 from rfl, show [oR (j + 1)].length = 1 from rfl, HPl.out] at HPy
            have hnl : ¬ (i : Int) < (i : Int) := by omega
            clear hlq hpr hpl hco hcl
            go_wp2_with fail
            refine (HQ.out _).mono ?_
            rintro e wq ⟨rfl, rfl⟩
            go_wp2_with fail
            refine HPy.out.mono ?_
            rintro e w5 ⟨A5, d5, B5, e5, rfl, hn5, hr, hkp⟩
            have hal : Below w5.heap.size w5 (w5.alloc (.cells #[.int .i64 (v : Int), .int .i64 0, .int .i64 ((j : Int) + 1), .slice A5 1 d5, .slice B5 i e5] 31)) := (Below.refl _ _).alloc (Nat.le_refl _) _
            have HR5 := Lib.hid (show Ri w ib (oY (1 + (p : Int)) v n i j i i (some ⟨v, 0, (j : Int) + 1, [oR (j + 1)], pvO n i (j + 1)⟩)) (w5.alloc (.cells #[.int .i64 (v : Int), .int .i64 0, .int .i64 ((j : Int) + 1), .slice A5 1 d5, .slice B5 i e5] 31)) from by
              refine Ri.below ?_ hal
              unfold oY Ix.put at hr ⊢
              simp only [set_twice] at hr
              exact hr)
            have HB5 := Lib.hid ((hkp.blk HB.out (by decide) (by decide) (by decide)).alloc (.cells #[.int .i64 (v : Int), .int .i64 0, .int .i64 ((j : Int) + 1), .slice A5 1 d5, .slice B5 i e5] 31))
            have HK5 := Lib.hid (Blk.new w5 31 #[.int .i64 (v : Int), .int .i64 0, .int .i64 ((j : Int) + 1), .slice A5 1 d5, .slice B5 i e5])
            have HN5 := Lib.hid (show (w5.alloc (.cells #[.int .i64 (v : Int), .int .i64 0, .int .i64 ((j : Int) + 1), .slice A5 1 d5, .slice B5 i e5] 31)).ownsRow 0 41 6 (.slice A5 1 d5) 1 (reqCells [oR (j + 1)]) from below_own (own_to0 hn5.bt) hal (Nat.le_refl _))
            obtain ⟨g5, hg5⟩ : ∃ y, w5.heap.size = y := ⟨_, rfl⟩
            rw [hg5] at HK5
            have HG5 := Lib.hid hg5
            clear hn5 hr hkp hal HPy HR HB hg5
            have HPn := Lib.hid (r_prepared_no HR5.out (oY_at i i _ hj16) rfl HQq.out (Or.inl ⟨_, rfl, rfl⟩))
            go_wp2_with fail
            rw [HG5.out]
            refine HPn.out.mono ?_
            rintro e w6 ⟨rfl, hb6⟩
            have hal : Below w6.heap.size w6 (w6.alloc (.cells #[.int .i64 0, .int .i64 0, .int .i64 0, .slice none 0 0, .slice none 0 0] 31)) := (Below.refl _ _).alloc (Nat.le_refl _) _
            have HR6 := Lib.hid ((HR5.out.below hb6).below hal)
            have HB6 := Lib.hid ((HB5.out.below hb6 HB5.out.lt).alloc (.cells #[.int .i64 0, .int .i64 0, .int .i64 0, .slice none 0 0, .slice none 0 0] 31))
            have HK6 := Lib.hid ((HK5.out.below hb6 HK5.out.lt).alloc (.cells #[.int .i64 0, .int .i64 0, .int .i64 0, .slice none 0 0, .slice none 0 0] 31))
            have HN6 := Lib.hid (below_own (below_own HN5.out hb6 (Nat.le_refl _)) hal (Nat.le_refl _))
            clear hb6 hal HPn HR5 HB5 HK5 HN5 HG5
            have HCy := Lib.hid (r_commits HR6.out (oY_at i i _ hj16) rfl rfl HQq.out HCo.out)
            rw [show (oY (1 + (p : Int)) v n i j i i (some ⟨v, 0, (j : Int) + 1, [oR (j + 1)], pvO n i (j + 1)⟩)).vw = (v : Int) from rfl, show (oY (1 + (p : Int)) v n i j i i (some ⟨v, 0, (j : Int) + 1, [oR (j + 1)], pvO n i (j + 1)⟩)).num = 0 from rfl, show [oR (j + 1)].length = 1 from rfl, HCl.out] at HCy
            go_wp2_with fail
            refine HCy.out.mono ?_
            rintro e w7 ⟨A7, d7, B7, e7, rfl, hn7, hr, hkp⟩
            have hal : Below w7.heap.size w7 (w7.alloc (.cells #[.int .i64 (v : Int), .int .i64 0, .int .i64 ((j : Int) + 1), .slice A7 1 d7, .slice B7 i e7] 31)) := (Below.refl _ _).alloc (Nat.le_refl _) _
            have HR7 := Lib.hid (show Ri w ib (oX (1 + (p : Int)) v n i (j + 1)) (w7.alloc (.cells #[.int .i64 (v : Int), .int .i64 0, .int .i64 ((j : Int) + 1), .slice A7 1 d7, .slice B7 i e7] 31)) from by
              refine Ri.below ?_ hal
              unfold oY Ix.put oX at hr
              simp only [set_twice] at hr
              have := fnL_set (A := oA v n i) (B := oB n) hj16
              unfold oX
              rw [← this]
              exact hr)
            have HB7 := Lib.hid ((hkp.blk HB6.out (by decide) (by decide) (by decide)).alloc (.cells #[.int .i64 (v : Int), .int .i64 0, .int .i64 ((j : Int) + 1), .slice A7 1 d7, .slice B7 i e7] 31))
            have HK7 := Lib.hid ((hkp.blk HK6.out (by decide) (by decide) (by decide)).alloc (.cells #[.int .i64 (v : Int), .int .i64 0, .int .i64 ((j : Int) + 1), .slice A7 1 d7, .slice B7 i e7] 31))
            have HJ7 := Lib.hid (Blk.new w7 31 #[.int .i64 (v : Int), .int .i64 0, .int .i64 ((j : Int) + 1), .slice A7 1 d7, .slice B7 i e7])
            have HN7 := Lib.hid (below_own (hkp.own HN6.out (by decide) (by decide) (by decide)) hal (Nat.le_refl _))
            have HM7 := Lib.hid (show (w7.alloc (.cells #[.int .i64 (v : Int), .int .i64 0, .int .i64 ((j : Int) + 1), .slice A7 1 d7, .slice B7 i e7] 31)).ownsRow 0 41 6 (.slice A7 1 d7) 1 (reqCells [oR (j + 1)]) from below_own (own_to0 hn7.bt) hal (Nat.le_refl _))
            have HS1 := Lib.hid (fun m' => same_reqs_is (A := A5) (A' := some ⟨g2, 0, none⟩) (c := d5) (c' := 1) (la := 1) (lb := 1) (zs := [oR (j + 1)]) (ys := [oR (j + 1)]) (r := true) rfl rfl (by omega) (sameL_self' _) ((w7.alloc (.cells #[.int .i64 (v : Int), .int .i64 0, .int .i64 ((j : Int) + 1), .slice A7 1 d7, .slice B7 i e7] 31)).drewN m') ((has_rows HN7.out).drewN m') ((has_one (oR (j + 1)) HB7.out).drewN m'))
            have HS2 := Lib.hid (fun m' => same_reqs_is (A := A7) (A' := some ⟨g2, 0, none⟩) (c := d7) (c' := 1) (la := 1) (lb := 1) (zs := [oR (j + 1)]) (ys := [oR (j + 1)]) (r := true) rfl rfl (by omega) (sameL_self' _) ((w7.alloc (.cells #[.int .i64 (v : Int), .int .i64 0, .int .i64 ((j : Int) + 1), .slice A7 1 d7, .slice B7 i e7] 31)).drewN m') ((has_rows HM7.out).drewN m') ((has_one (oR (j + 1)) HB7.out).drewN m'))
            have HQ2 := Lib.hid (fun w => (HQ.out w).mono (R' := fun e w' => e = .returned (.int .i64 (i : Int)) ∧ w' = w) (fun _ _ he => ⟨he.1, he.2.symm⟩))
            obtain ⟨k0, -, -, k3, k4, -⟩ := blk_cells5 HK7.out
            clear hn7 hr hkp hal HCy HR6 HB6 HK6 HN6
            go_wp2_with fail
            go_quiet ((first | (go_at_call 19; with_reducible exact Calls.quiet_of (HS1.out _)) | (go_at_call 19; with_reducible exact Calls.quiet_of (HS2.out _)) | (go_at_call 34; exact Calls.quiet_of_same (HQ2.out _))))
            go_wp2_with fail
            go_roundw
            case rel => exact ⟨j + 1, by go_num, by omega, HR7.out.drewN _⟩
            case measure => simp [intOf]; omega
      · obtain rfl : j = N := by omega
        have hnl : ¬ (j : Int) + 1 ≤ (j : Int) := by omega
        have HD := Lib.hid (r_done HR.out)
        rw [oX_done hN16] at HD
        have HC := Lib.hid (r_certs HR.out)
        clear hlt
        go_wp2_with fail
        refine HD.out.mono ?_
        rintro e wa ⟨rfl, rfl⟩
        go_wp2_with fail
        refine HC.out.mono ?_
        rintro e w5 ⟨u, rfl, ⟨M, hM1, hM2, -⟩, hb5⟩
        have hMl : M.length = j := by
          have := oX_certs (f := 1 + (p : Int)) (vw := v) (n := n) (q := q) hN16
          rw [← hM1, List.length_map] at this
          exact this
        rw [hMl] at hM2
        obtain ⟨A5, d5, rfl, -, -⟩ := own_slice hM2
        have HR5 := Lib.hid (HR.out.below hb5)
        clear hM1 hM2 hMl hb5 HC
        go_wp2_with fail
        refine (wakes15_any _).mono ?_
        rintro e w4 ⟨rfl, hb4⟩
        go_wp2_with fail
        go_ret
        exact ⟨rfl, HR5.out.low.trans (hb4.mono HR5.out.low.size)⟩
end Go.Proofs.Ytpdmflhbmimhgaa
