/- The walk of ReqsAlone: it returns true for any three ints. (Asks for reqs' contracts as ReqLaws.) -/
import Derived.Test.YtdopgdaobpcbjaaMakes5Walk
namespace Go.Proofs.Ytdopgdaobpcbjaa
open Go.RowKit

theorem mod_n (z : Int) (n : Nat) (h : 0 < n) : ∃ a : Nat, z % (n : Int) = a ∧ a < n :=
  ⟨(z % (n : Int)).toNat, by have := Int.emod_nonneg z (show (n : Int) ≠ 0 by omega); omega, by have := Int.emod_nonneg z (show (n : Int) ≠ 0 by omega); have := Int.emod_lt_of_pos z (show 0 < (n : Int) by omega); omega⟩
theorem str_list5 (zs : List Int) : (strOfNums zs).data.toList = zs.map fun n => UInt8.ofNat n.toNat := by simp [strOfNums]
theorem str_inj : ∀ {l m : List Int}, (∀ z ∈ l, 0 ≤ z ∧ z ≤ 255) → (∀ z ∈ m, 0 ≤ z ∧ z ≤ 255) → l.map (fun n => UInt8.ofNat n.toNat) = m.map (fun n => UInt8.ofNat n.toNat) → l = m
  | [], [], _, _, _ => rfl
  | [], _ :: _, _, _, h => by simp at h
  | _ :: _, [], _, _, h => by simp at h
  | x :: l, y :: m, hl, hm, h => by
    simp only [List.map_cons, List.cons.injEq] at h
    have h1 := congrArg UInt8.toNat h.1
    simp [UInt8.toNat_ofNat'] at h1
    have hx := hl x (by simp)
    have hy := hm y (by simp)
    rw [str_inj (l := l) (m := m) (fun z hz => hl z (by simp [hz])) (fun z hz => hm z (by simp [hz])) h.2]
    congr 1
    omega
/-- A seal of one request is no other one's. -/
theorem sealed_alone {r s : Rq} {n : Int} {bs : List Int} (hb : bodyS r = some bs) (hne : s ≠ r.with 1) : sealedS s n [(100 + r.cl, strOfNums bs)] = false := by
  cases hv : validS s n with
  | false => exact sealedS_no hv
  | true =>
    cases hs : bodyS s with
    | none => exact sealedS_none hs
    | some cs =>
      rw [sealedS_some hv hs]
      unfold checkS
      by_cases hm : ((100 + s.cl, strOfNums cs) : Deed) ∈ [((100 + r.cl, strOfNums bs) : Deed)]
      · have he := List.mem_singleton.1 hm
        have h1 : s.cl = r.cl := by have := congrArg (fun d : Deed => d.1) he; simp only at this; omega
        have h2 := congrArg (fun d : Deed => d.2.data.toList) he
        simp only [str_list5] at h2
        have h3 : cs = bs := str_inj (bytesOf_u8 hs) (bytesOf_u8 hb) h2
        subst h3
        have h4 : s.bare = r.bare := unlike (g := Rq.toks) tells_req hs hb
        have h5 : s.sg ≠ 1 := fun e => hne (by
          cases s; cases r
          simp [Rq.bare, Rq.with] at *
          simp_all)
        rw [he]
        unfold findS idx
        simp
        omega
      · rw [decide_eq_false hm]; rfl
set_option maxHeartbeats 4000000 in
set_option maxRecDepth 100000 in
theorem reqsAlone_walk (M : ReqLaws) (a0 a1 a2 : Int) (w : World) (w0 : (Lit.int .i64 a0).wf = true) (w1 : (Lit.int .i64 a1).wf = true) (w2 : (Lit.int .i64 a2).wf = true) :
    Calls Try.prog 8 #[.int .i64 a0, .int .i64 a1, .int .i64 a2] w fun e w' => e = .returned (.bool true) ∧ Below w.heap.size w w' := by
  have HM := Lib.hid M
  obtain ⟨t, ht, ht1⟩ := mod_n a0 1000 (by omega)
  obtain ⟨K, hK, hK1⟩ := mod_n a1 60 (by omega)
  obtain ⟨u, hu, hu1⟩ := mod_n a2 6 (by omega)
  have HW1 := Lib.hid (fun w => within_any a0 1000 (by omega) (by omega) (wf_i64 w0).1 (wf_i64 w0).2 w)
  have HW2 := Lib.hid (fun w => within_any a1 60 (by omega) (by omega) (wf_i64 w1).1 (wf_i64 w1).2 w)
  have HW3 := Lib.hid (fun w => within_any a2 6 (by omega) (by omega) (wf_i64 w2).1 (wf_i64 w2).2 w)
  rw [show a0 % 1000 = (t : Int) from ht] at HW1
  rw [show a1 % 60 = (K : Int) from hK] at HW2
  rw [show a2 % 6 = (u : Int) from hu] at HW3
  obtain ⟨T, hT⟩ : ∃ T : Nat, t + 1 = T := ⟨_, rfl⟩
  have hT1 : 1 ≤ T := by omega
  have hT2 : T ≤ 1000 := by omega
  have hTq : 1 + (t : Int) = (T : Int) := by omega
  have HFr := Lib.hid (show (Rq.mk 1 T 1 K 7 0).Fits from ⟨fit_small (by simp only; omega) (by simp only; omega), fit_small (by simp only; omega) (by simp only; omega), fit_small (by simp only; omega) (by simp only; omega), fit_small (by simp only; omega) (by simp only; omega), fit_small (by simp only; omega) (by simp only; omega), fit_small (by simp only; omega) (by simp only; omega)⟩)
  have HF4 := Lib.hid (show fit 4 from fit_small (by decide) (by decide))
  clear M w0 w1 w2 ht hK hu hT
  go_enter Try.func8, Try.ntmps8
  go_wp2_with fail
  refine (new_any _).mono ?_
  rintro e w1 ⟨nb, bm, rfl, hN1, hnb, hbm, hb1⟩
  have HN1 := Lib.hid hN1
  have HB1 := Lib.hid hb1
  have HBM := Lib.hid hbm
  clear hN1 hb1 hbm hnb
  go_wp2_with fail
  refine (HW1.out _).mono ?_
  rintro e w' ⟨rfl, rfl⟩
  go_wp2_with fail
  refine (HW2.out _).mono ?_
  rintro e w' ⟨rfl, rfl⟩
  go_wp2_with fail
  refine (HM.out.make HN1.out (by simp) ⟨1, T, 1, K, 7, 0⟩ HFr.out rfl 4 HF4.out (by decide)).mono ?_
  rintro e w2 (⟨hv, bs, hbs, rfl, hN2, ht2⟩ | ⟨hv, _⟩)
  · dsimp only
    rw [sealS_one]
    rw [sealed_one] at hN2
    have HB2 := Lib.hid (below_turn HB1.out HB1.out.size ht2 HBM.out)
    have HN2 := Lib.hid hN2
    have HSd := Lib.hid (sealed_made hv hbs)
    have HBs := Lib.hid hbs
    clear hv hbs hN2 ht2
    go_wp2_with fail
    have HX := Lib.hid (show Blk (w2.alloc (.cells #[.int .i64 1, .int .i64 T, .int .i64 1, .int .i64 K, .int .i64 7, .int .i64 1] 34)) w2.heap.size 34 #[.int .i64 1, .int .i64 T, .int .i64 1, .int .i64 K, .int .i64 7, .int .i64 1] from Blk.new _ _ _)
    have HB3 := Lib.hid (show Below w.heap.size w (w2.alloc (.cells #[.int .i64 1, .int .i64 T, .int .i64 1, .int .i64 K, .int .i64 7, .int .i64 1] 34)) from HB2.out.alloc HB2.out.size _)
    have HN3 := Lib.hid (show Nt (w2.alloc (.cells #[.int .i64 1, .int .i64 T, .int .i64 1, .int .i64 K, .int .i64 7, .int .i64 1] 34)) nb bm _ from HN2.out.below ((Below.refl _ _).alloc (Nat.le_refl _) _))
    obtain ⟨w3, hw3⟩ : ∃ w3, w2.alloc (.cells #[.int .i64 1, .int .i64 T, .int .i64 1, .int .i64 K, .int .i64 7, .int .i64 1] 34) = w3 := ⟨_, rfl⟩
    rw [hw3] at HX HB3 HN3
    first | rw [hw3] | skip
    obtain ⟨g1, hg1⟩ : ∃ g1, w2.heap.size = g1 := ⟨_, rfl⟩
    rw [hg1] at HX ⊢
    clear hw3 hg1 HN2 HB2
    have HSl := Lib.hid (HM.out.sealed HN3.out ⟨1, T, 1, K, 7, 1⟩ (fits_with HFr.out 1 (fit_small (by decide) (by decide))) 4 HF4.out)
    rw [show sealedS ⟨1, T, 1, K, 7, 1⟩ 4 _ = true from HSd.out] at HSl
    refine HSl.out.mono ?_
    rintro e w4 ⟨rfl, hb4⟩
    have hx4 := HX.out.below hb4 HX.out.lt
    have HX4 := Lib.hid hx4
    have HB4 := Lib.hid (HB3.out.trans (hb4.mono HB3.out.size))
    have HN4 := Lib.hid (HN3.out.below hb4)
    have c0 := hx4.cell 0
    have c1 := hx4.cell 1
    have c2 := hx4.cell 2
    have c3 := hx4.cell 3
    have c4 := hx4.cell 4
    have c5 := hx4.cell 5
    simp only [List.getElem?_toArray, List.getElem?_cons_zero, List.getElem?_cons_succ] at c0 c1 c2 c3 c4 c5
    have hlt := hx4.lt
    clear hx4 hb4 HSl
    go_wp2_with fail
    refine (HW3.out _).mono ?_
    rintro e w' ⟨rfl, rfl⟩
    rcases (show u = 0 ∨ u = 1 ∨ u = 2 ∨ u = 3 ∨ u = 4 ∨ u = 5 by omega) with rfl | rfl | rfl | rfl | rfl | rfl
    · go_wp2_with fail
      have HN5 := Lib.hid (show Nt (w4.alloc (.cells #[.int .i64 2, .int .i64 T, .int .i64 1, .int .i64 K, .int .i64 7, .int .i64 1] 34)) nb bm _ from HN4.out.below ((Below.refl _ _).alloc (Nat.le_refl _) _))
      have HB5 := Lib.hid (show Below w.heap.size w (w4.alloc (.cells #[.int .i64 2, .int .i64 T, .int .i64 1, .int .i64 K, .int .i64 7, .int .i64 1] 34)) from HB4.out.alloc HB4.out.size _)
      have HX5 := Lib.hid (show Bxs g1 w4.heap.size #[.int .i64 1, .int .i64 T, .int .i64 1, .int .i64 K, .int .i64 7, .int .i64 1] #[.int .i64 2, .int .i64 T, .int .i64 1, .int .i64 K, .int .i64 7, .int .i64 1] (w4.alloc (.cells #[.int .i64 2, .int .i64 T, .int .i64 1, .int .i64 K, .int .i64 7, .int .i64 1] 34)) from ⟨HX4.out.alloc _, Blk.new _ _ _⟩)
      have HSl := Lib.hid (HM.out.sealed HN5.out ⟨2, T, 1, K, 7, 1⟩ ⟨fit_small (by simp only; omega) (by simp only; omega), fit_small (by simp only; omega) (by simp only; omega), fit_small (by simp only; omega) (by simp only; omega), fit_small (by simp only; omega) (by simp only; omega), fit_small (by simp only; omega) (by simp only; omega), fit_small (by simp only; omega) (by simp only; omega)⟩ 4 HF4.out)
      have hne : (⟨2, T, 1, K, 7, 1⟩ : Rq) ≠ (Rq.mk 1 T 1 K 7 0).with 1 := by
        intro h
        simp [Rq.with] at h
        try omega
      rw [sealed_alone HBs.out hne] at HSl
      have hz : cmpR (Rq.mk 1 T 1 K 7 1) ⟨2, T, 1, K, 7, 1⟩ ≠ 0 := fun h => hne (cmpR_zero h).symm
      have HC := Lib.hid (fun w => HM.out.compare ⟨1, T, 1, K, 7, 1⟩ ⟨2, T, 1, K, 7, 1⟩ w)
      obtain ⟨z, hzz⟩ : ∃ z, cmpR (Rq.mk 1 T 1 K 7 1) ⟨2, T, 1, K, 7, 1⟩ = z := ⟨_, rfl⟩
      rw [hzz] at HC hz
      have tz : (z != 0) = true := by simpa using hz
      clear hne hzz hz c0 c1 c2 c3 c4 c5
      refine HSl.out.mono ?_
      rintro e w6 ⟨rfl, hb6⟩
      have hx6 := HX5.out.below hb6
      have HB6 := Lib.hid (HB5.out.trans (hb6.mono HB5.out.size))
      have c0 := hx6.1.cell 0
      have c1 := hx6.1.cell 1
      have c2 := hx6.1.cell 2
      have c3 := hx6.1.cell 3
      have c4 := hx6.1.cell 4
      have c5 := hx6.1.cell 5
      have d0 := hx6.2.cell 0
      have d1 := hx6.2.cell 1
      have d2 := hx6.2.cell 2
      have d3 := hx6.2.cell 3
      have d4 := hx6.2.cell 4
      have d5 := hx6.2.cell 5
      simp only [List.getElem?_toArray, List.getElem?_cons_zero, List.getElem?_cons_succ] at c0 c1 c2 c3 c4 c5 d0 d1 d2 d3 d4 d5
      clear hx6 hb6 HSl
      go_wp2_with fail
      refine (HC.out _).mono ?_
      rintro e w7 ⟨rfl, hb7⟩
      have HB7 := Lib.hid (HB6.out.trans (hb7.mono HB6.out.size))
      clear hb7
      go_wp2_with fail
      refine (wakes5_any HM.out _).mono ?_
      rintro e w8 ⟨rfl, hb8⟩
      have HB8 := Lib.hid (HB7.out.trans (hb8.mono HB7.out.size))
      clear hb8
      go_wp2_with fail
      go_ret
      exact ⟨rfl, HB8.out⟩
    · go_wp2_with fail
      have HN5 := Lib.hid (show Nt (w4.alloc (.cells #[.int .i64 1, .int .i64 ((T : Int) + 1), .int .i64 1, .int .i64 K, .int .i64 7, .int .i64 1] 34)) nb bm _ from HN4.out.below ((Below.refl _ _).alloc (Nat.le_refl _) _))
      have HB5 := Lib.hid (show Below w.heap.size w (w4.alloc (.cells #[.int .i64 1, .int .i64 ((T : Int) + 1), .int .i64 1, .int .i64 K, .int .i64 7, .int .i64 1] 34)) from HB4.out.alloc HB4.out.size _)
      have HX5 := Lib.hid (show Bxs g1 w4.heap.size #[.int .i64 1, .int .i64 T, .int .i64 1, .int .i64 K, .int .i64 7, .int .i64 1] #[.int .i64 1, .int .i64 ((T : Int) + 1), .int .i64 1, .int .i64 K, .int .i64 7, .int .i64 1] (w4.alloc (.cells #[.int .i64 1, .int .i64 ((T : Int) + 1), .int .i64 1, .int .i64 K, .int .i64 7, .int .i64 1] 34)) from ⟨HX4.out.alloc _, Blk.new _ _ _⟩)
      have HSl := Lib.hid (HM.out.sealed HN5.out ⟨1, (T : Int) + 1, 1, K, 7, 1⟩ ⟨fit_small (by simp only; omega) (by simp only; omega), fit_small (by simp only; omega) (by simp only; omega), fit_small (by simp only; omega) (by simp only; omega), fit_small (by simp only; omega) (by simp only; omega), fit_small (by simp only; omega) (by simp only; omega), fit_small (by simp only; omega) (by simp only; omega)⟩ 4 HF4.out)
      have hne : (⟨1, (T : Int) + 1, 1, K, 7, 1⟩ : Rq) ≠ (Rq.mk 1 T 1 K 7 0).with 1 := by
        intro h
        simp [Rq.with] at h
        try omega
      rw [sealed_alone HBs.out hne] at HSl
      have hz : cmpR (Rq.mk 1 T 1 K 7 1) ⟨1, (T : Int) + 1, 1, K, 7, 1⟩ ≠ 0 := fun h => hne (cmpR_zero h).symm
      have HC := Lib.hid (fun w => HM.out.compare ⟨1, T, 1, K, 7, 1⟩ ⟨1, (T : Int) + 1, 1, K, 7, 1⟩ w)
      obtain ⟨z, hzz⟩ : ∃ z, cmpR (Rq.mk 1 T 1 K 7 1) ⟨1, (T : Int) + 1, 1, K, 7, 1⟩ = z := ⟨_, rfl⟩
      rw [hzz] at HC hz
      have tz : (z != 0) = true := by simpa using hz
      clear hne hzz hz c0 c1 c2 c3 c4 c5
      refine HSl.out.mono ?_
      rintro e w6 ⟨rfl, hb6⟩
      have hx6 := HX5.out.below hb6
      have HB6 := Lib.hid (HB5.out.trans (hb6.mono HB5.out.size))
      have c0 := hx6.1.cell 0
      have c1 := hx6.1.cell 1
      have c2 := hx6.1.cell 2
      have c3 := hx6.1.cell 3
      have c4 := hx6.1.cell 4
      have c5 := hx6.1.cell 5
      have d0 := hx6.2.cell 0
      have d1 := hx6.2.cell 1
      have d2 := hx6.2.cell 2
      have d3 := hx6.2.cell 3
      have d4 := hx6.2.cell 4
      have d5 := hx6.2.cell 5
      simp only [List.getElem?_toArray, List.getElem?_cons_zero, List.getElem?_cons_succ] at c0 c1 c2 c3 c4 c5 d0 d1 d2 d3 d4 d5
      clear hx6 hb6 HSl
      go_wp2_with fail
      refine (HC.out _).mono ?_
      rintro e w7 ⟨rfl, hb7⟩
      have HB7 := Lib.hid (HB6.out.trans (hb7.mono HB6.out.size))
      clear hb7
      go_wp2_with fail
      refine (wakes5_any HM.out _).mono ?_
      rintro e w8 ⟨rfl, hb8⟩
      have HB8 := Lib.hid (HB7.out.trans (hb8.mono HB7.out.size))
      clear hb8
      go_wp2_with fail
      go_ret
      exact ⟨rfl, HB8.out⟩
    · go_wp2_with fail
      have HN5 := Lib.hid (show Nt (w4.alloc (.cells #[.int .i64 1, .int .i64 T, .int .i64 1, .int .i64 ((K : Int) + 1), .int .i64 7, .int .i64 1] 34)) nb bm _ from HN4.out.below ((Below.refl _ _).alloc (Nat.le_refl _) _))
      have HB5 := Lib.hid (show Below w.heap.size w (w4.alloc (.cells #[.int .i64 1, .int .i64 T, .int .i64 1, .int .i64 ((K : Int) + 1), .int .i64 7, .int .i64 1] 34)) from HB4.out.alloc HB4.out.size _)
      have HX5 := Lib.hid (show Bxs g1 w4.heap.size #[.int .i64 1, .int .i64 T, .int .i64 1, .int .i64 K, .int .i64 7, .int .i64 1] #[.int .i64 1, .int .i64 T, .int .i64 1, .int .i64 ((K : Int) + 1), .int .i64 7, .int .i64 1] (w4.alloc (.cells #[.int .i64 1, .int .i64 T, .int .i64 1, .int .i64 ((K : Int) + 1), .int .i64 7, .int .i64 1] 34)) from ⟨HX4.out.alloc _, Blk.new _ _ _⟩)
      have HSl := Lib.hid (HM.out.sealed HN5.out ⟨1, T, 1, (K : Int) + 1, 7, 1⟩ ⟨fit_small (by simp only; omega) (by simp only; omega), fit_small (by simp only; omega) (by simp only; omega), fit_small (by simp only; omega) (by simp only; omega), fit_small (by simp only; omega) (by simp only; omega), fit_small (by simp only; omega) (by simp only; omega), fit_small (by simp only; omega) (by simp only; omega)⟩ 4 HF4.out)
      have hne : (⟨1, T, 1, (K : Int) + 1, 7, 1⟩ : Rq) ≠ (Rq.mk 1 T 1 K 7 0).with 1 := by
        intro h
        simp [Rq.with] at h
        try omega
      rw [sealed_alone HBs.out hne] at HSl
      have hz : cmpR (Rq.mk 1 T 1 K 7 1) ⟨1, T, 1, (K : Int) + 1, 7, 1⟩ ≠ 0 := fun h => hne (cmpR_zero h).symm
      have HC := Lib.hid (fun w => HM.out.compare ⟨1, T, 1, K, 7, 1⟩ ⟨1, T, 1, (K : Int) + 1, 7, 1⟩ w)
      obtain ⟨z, hzz⟩ : ∃ z, cmpR (Rq.mk 1 T 1 K 7 1) ⟨1, T, 1, (K : Int) + 1, 7, 1⟩ = z := ⟨_, rfl⟩
      rw [hzz] at HC hz
      have tz : (z != 0) = true := by simpa using hz
      clear hne hzz hz c0 c1 c2 c3 c4 c5
      refine HSl.out.mono ?_
      rintro e w6 ⟨rfl, hb6⟩
      have hx6 := HX5.out.below hb6
      have HB6 := Lib.hid (HB5.out.trans (hb6.mono HB5.out.size))
      have c0 := hx6.1.cell 0
      have c1 := hx6.1.cell 1
      have c2 := hx6.1.cell 2
      have c3 := hx6.1.cell 3
      have c4 := hx6.1.cell 4
      have c5 := hx6.1.cell 5
      have d0 := hx6.2.cell 0
      have d1 := hx6.2.cell 1
      have d2 := hx6.2.cell 2
      have d3 := hx6.2.cell 3
      have d4 := hx6.2.cell 4
      have d5 := hx6.2.cell 5
      simp only [List.getElem?_toArray, List.getElem?_cons_zero, List.getElem?_cons_succ] at c0 c1 c2 c3 c4 c5 d0 d1 d2 d3 d4 d5
      clear hx6 hb6 HSl
      go_wp2_with fail
      refine (HC.out _).mono ?_
      rintro e w7 ⟨rfl, hb7⟩
      have HB7 := Lib.hid (HB6.out.trans (hb7.mono HB6.out.size))
      clear hb7
      go_wp2_with fail
      refine (wakes5_any HM.out _).mono ?_
      rintro e w8 ⟨rfl, hb8⟩
      have HB8 := Lib.hid (HB7.out.trans (hb8.mono HB7.out.size))
      clear hb8
      go_wp2_with fail
      go_ret
      exact ⟨rfl, HB8.out⟩
    · go_wp2_with fail
      have HN5 := Lib.hid (show Nt (w4.alloc (.cells #[.int .i64 1, .int .i64 T, .int .i64 1, .int .i64 K, .int .i64 8, .int .i64 1] 34)) nb bm _ from HN4.out.below ((Below.refl _ _).alloc (Nat.le_refl _) _))
      have HB5 := Lib.hid (show Below w.heap.size w (w4.alloc (.cells #[.int .i64 1, .int .i64 T, .int .i64 1, .int .i64 K, .int .i64 8, .int .i64 1] 34)) from HB4.out.alloc HB4.out.size _)
      have HX5 := Lib.hid (show Bxs g1 w4.heap.size #[.int .i64 1, .int .i64 T, .int .i64 1, .int .i64 K, .int .i64 7, .int .i64 1] #[.int .i64 1, .int .i64 T, .int .i64 1, .int .i64 K, .int .i64 8, .int .i64 1] (w4.alloc (.cells #[.int .i64 1, .int .i64 T, .int .i64 1, .int .i64 K, .int .i64 8, .int .i64 1] 34)) from ⟨HX4.out.alloc _, Blk.new _ _ _⟩)
      have HSl := Lib.hid (HM.out.sealed HN5.out ⟨1, T, 1, K, 8, 1⟩ ⟨fit_small (by simp only; omega) (by simp only; omega), fit_small (by simp only; omega) (by simp only; omega), fit_small (by simp only; omega) (by simp only; omega), fit_small (by simp only; omega) (by simp only; omega), fit_small (by simp only; omega) (by simp only; omega), fit_small (by simp only; omega) (by simp only; omega)⟩ 4 HF4.out)
      have hne : (⟨1, T, 1, K, 8, 1⟩ : Rq) ≠ (Rq.mk 1 T 1 K 7 0).with 1 := by
        intro h
        simp [Rq.with] at h
        try omega
      rw [sealed_alone HBs.out hne] at HSl
      have hz : cmpR (Rq.mk 1 T 1 K 7 1) ⟨1, T, 1, K, 8, 1⟩ ≠ 0 := fun h => hne (cmpR_zero h).symm
      have HC := Lib.hid (fun w => HM.out.compare ⟨1, T, 1, K, 7, 1⟩ ⟨1, T, 1, K, 8, 1⟩ w)
      obtain ⟨z, hzz⟩ : ∃ z, cmpR (Rq.mk 1 T 1 K 7 1) ⟨1, T, 1, K, 8, 1⟩ = z := ⟨_, rfl⟩
      rw [hzz] at HC hz
      have tz : (z != 0) = true := by simpa using hz
      clear hne hzz hz c0 c1 c2 c3 c4 c5
      refine HSl.out.mono ?_
      rintro e w6 ⟨rfl, hb6⟩
      have hx6 := HX5.out.below hb6
      have HB6 := Lib.hid (HB5.out.trans (hb6.mono HB5.out.size))
      have c0 := hx6.1.cell 0
      have c1 := hx6.1.cell 1
      have c2 := hx6.1.cell 2
      have c3 := hx6.1.cell 3
      have c4 := hx6.1.cell 4
      have c5 := hx6.1.cell 5
      have d0 := hx6.2.cell 0
      have d1 := hx6.2.cell 1
      have d2 := hx6.2.cell 2
      have d3 := hx6.2.cell 3
      have d4 := hx6.2.cell 4
      have d5 := hx6.2.cell 5
      simp only [List.getElem?_toArray, List.getElem?_cons_zero, List.getElem?_cons_succ] at c0 c1 c2 c3 c4 c5 d0 d1 d2 d3 d4 d5
      clear hx6 hb6 HSl
      go_wp2_with fail
      refine (HC.out _).mono ?_
      rintro e w7 ⟨rfl, hb7⟩
      have HB7 := Lib.hid (HB6.out.trans (hb7.mono HB6.out.size))
      clear hb7
      go_wp2_with fail
      refine (wakes5_any HM.out _).mono ?_
      rintro e w8 ⟨rfl, hb8⟩
      have HB8 := Lib.hid (HB7.out.trans (hb8.mono HB7.out.size))
      clear hb8
      go_wp2_with fail
      go_ret
      exact ⟨rfl, HB8.out⟩
    · go_wp2_with fail
      have HN5 := Lib.hid (show Nt (w4.alloc (.cells #[.int .i64 1, .int .i64 T, .int .i64 3, .int .i64 K, .int .i64 7, .int .i64 1] 34)) nb bm _ from HN4.out.below ((Below.refl _ _).alloc (Nat.le_refl _) _))
      have HB5 := Lib.hid (show Below w.heap.size w (w4.alloc (.cells #[.int .i64 1, .int .i64 T, .int .i64 3, .int .i64 K, .int .i64 7, .int .i64 1] 34)) from HB4.out.alloc HB4.out.size _)
      have HX5 := Lib.hid (show Bxs g1 w4.heap.size #[.int .i64 1, .int .i64 T, .int .i64 1, .int .i64 K, .int .i64 7, .int .i64 1] #[.int .i64 1, .int .i64 T, .int .i64 3, .int .i64 K, .int .i64 7, .int .i64 1] (w4.alloc (.cells #[.int .i64 1, .int .i64 T, .int .i64 3, .int .i64 K, .int .i64 7, .int .i64 1] 34)) from ⟨HX4.out.alloc _, Blk.new _ _ _⟩)
      have HSl := Lib.hid (HM.out.sealed HN5.out ⟨1, T, 3, K, 7, 1⟩ ⟨fit_small (by simp only; omega) (by simp only; omega), fit_small (by simp only; omega) (by simp only; omega), fit_small (by simp only; omega) (by simp only; omega), fit_small (by simp only; omega) (by simp only; omega), fit_small (by simp only; omega) (by simp only; omega), fit_small (by simp only; omega) (by simp only; omega)⟩ 4 HF4.out)
      have hne : (⟨1, T, 3, K, 7, 1⟩ : Rq) ≠ (Rq.mk 1 T 1 K 7 0).with 1 := by
        intro h
        simp [Rq.with] at h
        try omega
      rw [sealed_alone HBs.out hne] at HSl
      have hz : cmpR (Rq.mk 1 T 1 K 7 1) ⟨1, T, 3, K, 7, 1⟩ ≠ 0 := fun h => hne (cmpR_zero h).symm
      have HC := Lib.hid (fun w => HM.out.compare ⟨1, T, 1, K, 7, 1⟩ ⟨1, T, 3, K, 7, 1⟩ w)
      obtain ⟨z, hzz⟩ : ∃ z, cmpR (Rq.mk 1 T 1 K 7 1) ⟨1, T, 3, K, 7, 1⟩ = z := ⟨_, rfl⟩
      rw [hzz] at HC hz
      have tz : (z != 0) = true := by simpa using hz
      clear hne hzz hz c0 c1 c2 c3 c4 c5
      refine HSl.out.mono ?_
      rintro e w6 ⟨rfl, hb6⟩
      have hx6 := HX5.out.below hb6
      have HB6 := Lib.hid (HB5.out.trans (hb6.mono HB5.out.size))
      have c0 := hx6.1.cell 0
      have c1 := hx6.1.cell 1
      have c2 := hx6.1.cell 2
      have c3 := hx6.1.cell 3
      have c4 := hx6.1.cell 4
      have c5 := hx6.1.cell 5
      have d0 := hx6.2.cell 0
      have d1 := hx6.2.cell 1
      have d2 := hx6.2.cell 2
      have d3 := hx6.2.cell 3
      have d4 := hx6.2.cell 4
      have d5 := hx6.2.cell 5
      simp only [List.getElem?_toArray, List.getElem?_cons_zero, List.getElem?_cons_succ] at c0 c1 c2 c3 c4 c5 d0 d1 d2 d3 d4 d5
      clear hx6 hb6 HSl
      go_wp2_with fail
      refine (HC.out _).mono ?_
      rintro e w7 ⟨rfl, hb7⟩
      have HB7 := Lib.hid (HB6.out.trans (hb7.mono HB6.out.size))
      clear hb7
      go_wp2_with fail
      refine (wakes5_any HM.out _).mono ?_
      rintro e w8 ⟨rfl, hb8⟩
      have HB8 := Lib.hid (HB7.out.trans (hb8.mono HB7.out.size))
      clear hb8
      go_wp2_with fail
      go_ret
      exact ⟨rfl, HB8.out⟩
    · go_wp2_with fail
      have HN5 := Lib.hid (show Nt (w4.alloc (.cells #[.int .i64 1, .int .i64 T, .int .i64 1, .int .i64 K, .int .i64 7, .int .i64 2] 34)) nb bm _ from HN4.out.below ((Below.refl _ _).alloc (Nat.le_refl _) _))
      have HB5 := Lib.hid (show Below w.heap.size w (w4.alloc (.cells #[.int .i64 1, .int .i64 T, .int .i64 1, .int .i64 K, .int .i64 7, .int .i64 2] 34)) from HB4.out.alloc HB4.out.size _)
      have HX5 := Lib.hid (show Bxs g1 w4.heap.size #[.int .i64 1, .int .i64 T, .int .i64 1, .int .i64 K, .int .i64 7, .int .i64 1] #[.int .i64 1, .int .i64 T, .int .i64 1, .int .i64 K, .int .i64 7, .int .i64 2] (w4.alloc (.cells #[.int .i64 1, .int .i64 T, .int .i64 1, .int .i64 K, .int .i64 7, .int .i64 2] 34)) from ⟨HX4.out.alloc _, Blk.new _ _ _⟩)
      have HSl := Lib.hid (HM.out.sealed HN5.out ⟨1, T, 1, K, 7, 2⟩ ⟨fit_small (by simp only; omega) (by simp only; omega), fit_small (by simp only; omega) (by simp only; omega), fit_small (by simp only; omega) (by simp only; omega), fit_small (by simp only; omega) (by simp only; omega), fit_small (by simp only; omega) (by simp only; omega), fit_small (by simp only; omega) (by simp only; omega)⟩ 4 HF4.out)
      have hne : (⟨1, T, 1, K, 7, 2⟩ : Rq) ≠ (Rq.mk 1 T 1 K 7 0).with 1 := by
        intro h
        simp [Rq.with] at h
        try omega
      rw [sealed_alone HBs.out hne] at HSl
      have hz : cmpR (Rq.mk 1 T 1 K 7 1) ⟨1, T, 1, K, 7, 2⟩ ≠ 0 := fun h => hne (cmpR_zero h).symm
      have HC := Lib.hid (fun w => HM.out.compare ⟨1, T, 1, K, 7, 1⟩ ⟨1, T, 1, K, 7, 2⟩ w)
      obtain ⟨z, hzz⟩ : ∃ z, cmpR (Rq.mk 1 T 1 K 7 1) ⟨1, T, 1, K, 7, 2⟩ = z := ⟨_, rfl⟩
      rw [hzz] at HC hz
      have tz : (z != 0) = true := by simpa using hz
      clear hne hzz hz c0 c1 c2 c3 c4 c5
      refine HSl.out.mono ?_
      rintro e w6 ⟨rfl, hb6⟩
      have hx6 := HX5.out.below hb6
      have HB6 := Lib.hid (HB5.out.trans (hb6.mono HB5.out.size))
      have c0 := hx6.1.cell 0
      have c1 := hx6.1.cell 1
      have c2 := hx6.1.cell 2
      have c3 := hx6.1.cell 3
      have c4 := hx6.1.cell 4
      have c5 := hx6.1.cell 5
      have d0 := hx6.2.cell 0
      have d1 := hx6.2.cell 1
      have d2 := hx6.2.cell 2
      have d3 := hx6.2.cell 3
      have d4 := hx6.2.cell 4
      have d5 := hx6.2.cell 5
      simp only [List.getElem?_toArray, List.getElem?_cons_zero, List.getElem?_cons_succ] at c0 c1 c2 c3 c4 c5 d0 d1 d2 d3 d4 d5
      clear hx6 hb6 HSl
      go_wp2_with fail
      refine (HC.out _).mono ?_
      rintro e w7 ⟨rfl, hb7⟩
      have HB7 := Lib.hid (HB6.out.trans (hb7.mono HB6.out.size))
      clear hb7
      go_wp2_with fail
      refine (wakes5_any HM.out _).mono ?_
      rintro e w8 ⟨rfl, hb8⟩
      have HB8 := Lib.hid (HB7.out.trans (hb8.mono HB7.out.size))
      clear hb8
      go_wp2_with fail
      go_ret
      exact ⟨rfl, HB8.out⟩
  · exact absurd hv (by rw [show validS ⟨1, T, 1, K, 7, 0⟩ 4 = true by unfold validS; simp; omega]; decide)
end Go.Proofs.Ytdopgdaobpcbjaa
