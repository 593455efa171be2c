/- The walk of StoreRanges. -/
import Derived.Test.YtnbmhcgalpnmeaaSums10Walk
namespace Go.Proofs.Ytnbmhcgalpnmeaa
open Go.RowKit Go.Maps

/-- Of which operations there are none. -/
theorem storeS_no {V : Kv} {x y z : Int} (h : mayOp y z = false ∨ x < 1 ∨ 5 < x) : storeS V x y z = (0, V) := by
  unfold storeS
  rcases h with h | h | h
  · rw [if_pos h]
  · by_cases hm : mayOp y z = false
    · rw [if_pos hm]
    · rw [if_neg hm, if_neg (by omega), if_neg (by omega), if_neg (by omega), if_neg (by omega), if_neg (by omega)]
  · by_cases hm : mayOp y z = false
    · rw [if_pos hm]
    · rw [if_neg hm, if_neg (by omega), if_neg (by omega), if_neg (by omega), if_neg (by omega), if_neg (by omega)]
set_option maxHeartbeats 8000000 in
set_option maxRecDepth 100000 in
theorem storeRanges_walk (A : Option Addr) (c : Nat) (zs : List Oe) (x y z : Int) (w : World) (hl : IsOps w A zs c) (_ : fit x) (_ : fit y) (_ : fit z) :
    Calls Try.prog 8 #[.slice A zs.length c, .agg #[.int .i64 x, .int .i64 y, .int .i64 z]] w fun e w' => e = .returned (.bool true) ∧ Below w.heap.size w w' := by
  have HL := Lib.hid hl
  have HOb := Lib.hid (Blk.new w 29 #[.int .i64 x, .int .i64 y, .int .i64 z])
  have HB0 := Lib.hid ((Below.refl w.heap.size w).alloc (Nat.le_refl _) (.cells #[.int .i64 x, .int .i64 y, .int .i64 z] 29))
  obtain ⟨o, ho⟩ : ∃ o, w.heap.size = o := ⟨_, rfl⟩
  obtain ⟨w0, hw0⟩ : ∃ w0, w.alloc (.cells #[.int .i64 x, .int .i64 y, .int .i64 z] 29) = w0 := ⟨_, rfl⟩
  rw [hw0, ho] at HOb
  rw [hw0] at HB0
  have HO := Lib.hid ho
  have HW := Lib.hid hw0
  clear hl ho hw0
  go_enter Try.func8, Try.ntmps8
  go_wp2_with fail
  rw [HW.out, HO.out]
  refine (sn_new w _ HB0.out).mono ?_
  rintro e v1 ⟨sb, bm, rfl, h1, hs1, hs2, hb1⟩
  have H1 := Lib.hid (show Ru w sb bm 0 v1 from ⟨0, _, Nat.le_refl _, h1⟩)
  have HOb1 := Lib.hid (show Blk v1 o 29 #[.int .i64 x, .int .i64 y, .int .i64 z] from HOb.out.below hb1 HOb.out.lt)
  have HNo := Lib.hid (show o < sb ∧ o < bm by have := HOb.out.lt; omega)
  clear h1 hs1 hs2 hb1
  go_wp2_with fail
  go_loopw [6] (fun q wr => ∃ i : Nat, q = .int .i64 i ∧ i ≤ 60 ∧ i ≤ zs.length ∧ Hid (Ru w sb bm i wr) ∧ Hid (Blk wr o 29 #[.int .i64 x, .int .i64 y, .int .i64 z])) (fun q _ => zs.length - (intOf q).toNat)
  case atStart => exact ⟨0, rfl, by omega, by omega, H1, HOb1⟩
  case round =>
    obtain ⟨i, rfl, hi, hi2, HS, HBo⟩ := hrel
    obtain ⟨N, V, hN, hS⟩ := HS.out.ex
    have HS2 := Lib.hid hS
    clear HS hS
    by_cases hlt : i < zs.length ∧ i < 60
    · obtain ⟨hlt, h60⟩ := hlt
      obtain ⟨ad, rfl, hb, c0, c1, c2⟩ := ope_at (HL.out.has.below HS2.out.low (Nat.le_refl _)) hlt
      obtain ⟨r, hr⟩ : ∃ r, zs[i] = r := ⟨_, rfl⟩
      rw [hr] at c0 c1 c2
      obtain ⟨x1, y1, z1⟩ := r
      simp only at c0 c1 c2
      clear hr
      go_wp2_with fail
      refine (HS2.out.apply (by omega) _ _ _).mono ?_
      rintro e v3 ⟨rfl, h3, ht3⟩
      have HX := Lib.hid (show Ru w sb bm (i + 1) v3 from ⟨N + 1, _, by omega, h3⟩)
      have HX2 := Lib.hid (ht3.blk HBo.out (fun e => by have := HNo.out; omega))
      clear h3 ht3
      go_wp2_with fail
      go_roundw
      case rel => exact ⟨i + 1, by go_num, by omega, by omega, HX, HX2⟩
      case measure => simp [intOf]; omega
    · have HNn := Lib.hid (show N ≤ 60 by omega)
      have hstop : zs.length ≤ i ∨ (i < zs.length ∧ 60 ≤ i) := by omega
      obtain ⟨l, HLl⟩ := AllIs.of HS2.out.st.ok
      have HLl := Lib.hid HLl
      clear hlt hN
      rcases hstop with hs | ⟨hs, hs2⟩
      all_goals
        go_wp2_with fail
        refine (HS2.out.all HLl.out.all).mono ?_
        rintro e v4 ⟨A2, c2, rfl, hrow, hfar, h4, hb4⟩
        have HJ := Lib.hid (show Sj w sb bm N V A2 l v4 from ⟨h4, hrow, hfar⟩)
        have HBo4 := Lib.hid (show Blk v4 o 29 #[.int .i64 x, .int .i64 y, .int .i64 z] from HBo.out.below hb4 HBo.out.lt)
        clear h4 hrow hfar hb4
        go_wp2_with fail
        go_loopw [33] (fun q wr => ∃ (j : Nat) (nq : Nat), q = .int .i64 j ∧ j ≤ l.length ∧ wr = v4.drewN nq) (fun q _ => l.length - (intOf q).toNat)
        case atStart => exact ⟨0, 0, rfl, by omega, by first | rfl | trivial⟩
        case round =>
          obtain ⟨j, nq, rfl, hj, rfl⟩ := hrel
          have hln := HLl.out.len
          by_cases hlt : j < l.length
          · obtain ⟨ad, rfl, _, c0, c1⟩ := pair_at HJ.out.row hlt
            obtain ⟨p, hp⟩ : ∃ p, l[j] = p := ⟨_, rfl⟩
            rw [hp] at c0 c1
            obtain ⟨pk, pv⟩ := p
            simp only at c0 c1
            obtain ⟨⟨b0, b1⟩, b2, b3⟩ := HLl.out.vals _ (hp ▸ List.getElem_mem hlt)
            simp only at b0 b1 b2 b3
            have g0 : decide (pk < 0) = false := by simp; omega
            have g1 : decide (64 ≤ pk) = false := by simp; omega
            have g2 : decide (pv ≤ -2147483648) = false := by simp; omega
            have g3 : decide (2147483648 ≤ pv) = false := by simp; omega
            by_cases hj0 : j = 0
            · subst hj0
              have ez : ad.add (0 * 2) = ad := by simp [Addr.add]
              have c0' := c0
              have c1' := c1
              rw [ez] at c0' c1'
              have c0'' : v4.cell? (ad.add 0) = some (.int .i64 pk) := by simpa using c0
              have c1'' : v4.cell? ⟨(ad.add 0).block, (ad.add 0).off + 1, none⟩ = some (.int .i64 pv) := by simpa using c1
              clear hp
              go_wp2_with fail
              go_big_quiet (fail)
              go_wp2_with fail
              go_roundw
              case rel => exact ⟨1, _, by go_num, by omega, rfl⟩
              case measure => simp [intOf]; omega
            · obtain ⟨m, rfl⟩ : ∃ m, j = m + 1 := ⟨j - 1, by omega⟩
              obtain ⟨ad', ea, _, d0, d1⟩ := pair_at HJ.out.row (show m < l.length by omega)
              obtain rfl := Option.some.inj ea
              have hup := HLl.out.up m hlt
              rw [hp] at hup
              obtain ⟨q, hq⟩ : ∃ q, l[m] = q := ⟨_, rfl⟩
              rw [hq] at d0 d1 hup
              obtain ⟨qk, qv⟩ := q
              simp only at d0 d1 hup
              have g4 : decide (pk ≤ qk) = false := by simp; omega
              have g5 : decide ((0 : Int) < ((m + 1 : Nat) : Int)) = true := decide_eq_true (by omega)
              have e1 : IntKind.i64.wrap (((m + 1 : Nat) : Int) - 1) = (m : Int) := by rw [IntWalk.i64_in _ ⟨by omega, by omega⟩]; omega
              have e2 : ((m + 1 : Nat) : Int) - 1 = (m : Int) := by omega
              clear hp hq ea hup
              go_wp2_with fail
              go_big_quiet (fail)
              go_wp2_with fail
              go_roundw
              case rel => exact ⟨m + 2, _, by go_num, by omega, rfl⟩
              case measure => simp [intOf]; omega
          · obtain rfl : j = l.length := by omega
            obtain ⟨v5, hv5⟩ : ∃ v5, v4.drewN nq = v5 := ⟨_, rfl⟩
            have J5 := Lib.hid (show Sj w sb bm N V A2 l v5 from hv5 ▸ ⟨HJ.out.s.drewN nq, (HJ.out.row.drewN nq).tight, HJ.out.far⟩)
            have B5 := Lib.hid (show Blk v5 o 29 #[.int .i64 x, .int .i64 y, .int .i64 z] from hv5 ▸ HBo4.out.drewN nq)
            have b0 := B5.out.cell 0
            have b1 := B5.out.cell 1
            have b2 := B5.out.cell 2
            simp only [List.getElem?_toArray, List.getElem?_cons_zero, List.getElem?_cons_succ] at b0 b1 b2
            have HLe := Lib.hid (show l.length ≤ 9223372036854775806 by omega)
            rw [hv5]
            clear hlt hj hln hv5
            have hall : (y < 0 ∨ (0 ≤ y ∧ 64 ≤ y) ∨ ((0 ≤ y ∧ y < 64) ∧ z ≤ -2147483648) ∨ ((0 ≤ y ∧ y < 64) ∧ -2147483648 < z ∧ 2147483648 ≤ z) ∨ ((0 ≤ y ∧ y < 64) ∧ (-2147483648 < z ∧ z < 2147483648) ∧ x < 1) ∨ ((0 ≤ y ∧ y < 64) ∧ (-2147483648 < z ∧ z < 2147483648) ∧ 1 ≤ x ∧ 5 < x)) ∨ ((0 ≤ y ∧ y < 64) ∧ (-2147483648 < z ∧ z < 2147483648) ∧ 1 ≤ x ∧ x ≤ 5) := by omega
            rcases hall with hbad | ⟨⟨hy0, hy1⟩, ⟨hz0, hz1⟩, hx0, hx1⟩
            · have ES := Lib.hid (show storeS V x y z = (0, V) from storeS_no (by
                rcases hbad with h | h | h | h | h | h
                · exact Or.inl (decide_eq_false (by omega))
                · exact Or.inl (decide_eq_false (by omega))
                · exact Or.inl (decide_eq_false (by omega))
                · exact Or.inl (decide_eq_false (by omega))
                · exact Or.inr (Or.inl h.2.2)
                · exact Or.inr (Or.inr h.2.2.2)))
              rcases hbad with h | ⟨h, h'⟩ | ⟨⟨h, h'⟩, h''⟩ | ⟨⟨h, h'⟩, h'', h3⟩ | ⟨⟨h, h'⟩, ⟨h'', h3⟩, h4⟩ | ⟨⟨h, h'⟩, ⟨h'', h3⟩, h4, h5⟩
              all_goals
                go_wp2_with fail
                refine (J5.out.s.does (by have := HNn.out; omega) ES.out).mono ?_
                rintro e v6 ⟨rfl, h6, t6⟩
                have J6 := Lib.hid (J5.out.turned h6 t6)
                have hb6 := t6.blk B5.out (fun e => by have := HNo.out; omega)
                have d0 := hb6.cell 0
                have d1 := hb6.cell 1
                have d2 := hb6.cell 2
                simp only [List.getElem?_toArray, List.getElem?_cons_zero, List.getElem?_cons_succ] at d0 d1 d2
                clear h6 t6 hb6 b0 b1 b2
                go_wp2_with fail
                refine (J6.out.s.all HLl.out.all).mono ?_
                rintro e v7 ⟨A7, c7, rfl, hrow7, _, h7, hb7⟩
                have J7 := Lib.hid (J6.out.below hb7)
                have HR7 := Lib.hid hrow7
                clear h7 hb7 hrow7
                have KS := Lib.hid (same_pairs A7 A2 c7 c2 l v7.heap.size v7 HLe.out HR7.out J7.out.row)
                go_wp2_with fail
                refine KS.out.mono ?_
                rintro e v8 ⟨rfl, nq2, hv8⟩
                have J8 := Lib.hid (show Sn w sb bm (N + 1) V v8 from hv8 ▸ J7.out.s.drewN nq2)
                clear hv8
                go_wp2_with fail
                refine (wakes10_any _).mono ?_
                rintro e v13 ⟨rfl, hb⟩
                have H13 := Lib.hid (J8.out.below hb)
                clear hb
                go_wp2_with fail
                go_ret
                exact ⟨rfl, H13.out.low⟩
            · go_wp2_with fail
              refine (J5.out.s.apply (by have := HNn.out; omega) _ _ _).mono ?_
              rintro e v6 ⟨rfl, h6, t6⟩
              have J6 := Lib.hid h6
              have hb6 := t6.blk B5.out (fun e => by have := HNo.out; omega)
              have d0 := hb6.cell 0
              have d1 := hb6.cell 1
              have d2 := hb6.cell 2
              simp only [List.getElem?_toArray, List.getElem?_cons_zero, List.getElem?_cons_succ] at d0 d1 d2
              obtain ⟨r, hr⟩ : ∃ r, (storeS V x y z).1 = r := ⟨_, rfl⟩
              rw [hr]
              clear h6 t6 hb6 b0 b1 b2 hr
              go_wp2_with fail
              refine (wakes10_any _).mono ?_
              rintro e v13 ⟨rfl, hb⟩
              have H13 := Lib.hid (J6.out.below hb)
              clear hb
              go_wp2_with fail
              go_ret
              exact ⟨rfl, H13.out.low⟩
end Go.Proofs.Ytnbmhcgalpnmeaa
