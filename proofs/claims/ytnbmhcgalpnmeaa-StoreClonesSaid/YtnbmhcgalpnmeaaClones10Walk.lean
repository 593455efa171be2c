/- The walk of StoreClones. -/
import Derived.Test.YtnbmhcgalpnmeaaPlays10Walk
import Derived.Test.YtnbmhcgalpnmeaaStoreCopy
import Derived.Test.YtnbmhcgalpnmeaaWq
namespace Go.Proofs.Ytnbmhcgalpnmeaa
open Go.RowKit Go.Maps Go.Sort

/-- A store and its clone, the document's store and its copy. -/
structure Cq (w : World) (sb bm N : Nat) (V : Kv) (rb : Nat) (U : Kv) (tb tm M : Nat) (X : Kv) (qb : Nat) (Y : Kv) (wr : World) : Prop where
  s : Sn w sb bm N V wr
  r : Rs wr rb U
  t : Sn w tb tm M X wr
  q : Rs wr qb Y
  uo : U.Ok
  yo : Y.Ok
  o0 : w.heap.size ≤ rb
  o1 : sb < rb
  o2 : bm < rb
  o3 : rb < tb
  o4 : rb < tm
  o5 : tb < qb
  o6 : tm < qb
section
variable {w wr : World} {sb bm N rb tb tm M qb : Nat} {V U X Y : Kv}
theorem Cq.below {w2 : World} (h : Cq w sb bm N V rb U tb tm M X qb Y wr) (hb : Below wr.heap.size wr w2) : Cq w sb bm N V rb U tb tm M X qb Y w2 :=
  ⟨h.s.below hb, h.r.below hb, h.t.below hb, h.q.below hb, h.uo, h.yo, h.o0, h.o1, h.o2, h.o3, h.o4, h.o5, h.o6⟩
theorem Sn.kept {w wr w2 : World} {sb bm N : Nat} {V : Kv} {Z : Nat → Prop} (h : Sn w sb bm N V wr) (ht : Turn Z wr w2) (h1 : ¬ Z sb) (h2 : ¬ Z bm) (hz : ∀ k, k < w.heap.size → ¬ Z k) : Sn w sb bm N V w2 :=
  ⟨h.st.kept ht h1 h2, h.low.trans (ht.below h.low.size hz), h.b0, h.b1⟩
theorem Cq.doS (h : Cq w sb bm N V rb U tb tm M X qb Y wr) (hN : N ≤ 1000000) (kd p v : Int) :
    Calls Try.prog 14 #[.pointer (some ⟨sb, 0, none⟩), .agg #[.int .i64 kd, .int .i64 p, .int .i64 v]] wr fun e w' => e = .returned (.int .i64 (storeS V kd p v).1) ∧ Cq w sb bm (N + 1) (storeS V kd p v).2 rb U tb tm M X qb Y w' :=
  (h.s.apply hN kd p v).mono fun _ _ ⟨he, hs, ht⟩ => by
    have := h.s.b1; have := h.o1; have := h.o2; have := h.o3; have := h.o4; have := h.o5; have := h.o6
    exact ⟨he, hs, ht.blk h.r (by omega), h.t.kept ht (by omega) (by omega) (fun k hk => by omega), ht.blk h.q (by omega), h.uo, h.yo, h.o0, h.o1, h.o2, h.o3, h.o4, h.o5, h.o6⟩
theorem Cq.doT (h : Cq w sb bm N V rb U tb tm M X qb Y wr) (hM : M ≤ 1000000) (kd p v : Int) :
    Calls Try.prog 14 #[.pointer (some ⟨tb, 0, none⟩), .agg #[.int .i64 kd, .int .i64 p, .int .i64 v]] wr fun e w' => e = .returned (.int .i64 (storeS X kd p v).1) ∧ Cq w sb bm N V rb U tb tm (M + 1) (storeS X kd p v).2 qb Y w' :=
  (h.t.apply hM kd p v).mono fun _ _ ⟨he, hs, ht⟩ => by
    have := h.t.b1; have := h.o1; have := h.o2; have := h.o3; have := h.o4; have := h.o5; have := h.o6
    exact ⟨he, h.s.kept ht (by omega) (by omega) (fun k hk => by omega), ht.blk h.r (by omega), hs, ht.blk h.q (by omega), h.uo, h.yo, h.o0, h.o1, h.o2, h.o3, h.o4, h.o5, h.o6⟩
theorem Cq.doR (h : Cq w sb bm N V rb U tb tm M X qb Y wr) (kd p v : Int) :
    Calls Try.prog 17 #[.pointer (some ⟨rb, 0, none⟩), .agg #[.int .i64 kd, .int .i64 p, .int .i64 v]] wr fun e w' => e = .returned (.int .i64 (storeS U kd p v).1) ∧ Cq w sb bm N V rb (storeS U kd p v).2 tb tm M X qb Y w' :=
  (rapply_any h.r h.uo kd p v).mono fun _ _ ⟨he, hs, ht⟩ => by
    have := h.o0; have := h.o1; have := h.o2; have := h.o3; have := h.o4; have := h.o5; have := h.o6
    exact ⟨he, h.s.kept ht (by omega) (by omega) (fun k hk => by omega), hs, h.t.kept ht (by omega) (by omega) (fun k hk => by omega), ht.blk h.q (by omega), storeS_ok h.uo kd p v, h.yo, h.o0, h.o1, h.o2, h.o3, h.o4, h.o5, h.o6⟩
theorem Cq.doQ (h : Cq w sb bm N V rb U tb tm M X qb Y wr) (kd p v : Int) :
    Calls Try.prog 17 #[.pointer (some ⟨qb, 0, none⟩), .agg #[.int .i64 kd, .int .i64 p, .int .i64 v]] wr fun e w' => e = .returned (.int .i64 (storeS Y kd p v).1) ∧ Cq w sb bm N V rb U tb tm M X qb (storeS Y kd p v).2 w' :=
  (rapply_any h.q h.yo kd p v).mono fun _ _ ⟨he, hs, ht⟩ => by
    have := h.o0; have := h.o1; have := h.o2; have := h.o3; have := h.o4; have := h.o5; have := h.o6
    exact ⟨he, h.s.kept ht (by omega) (by omega) (fun k hk => by omega), ht.blk h.r (by omega), h.t.kept ht (by omega) (by omega) (fun k hk => by omega), hs, h.uo, storeS_ok h.yo kd p v, h.o0, h.o1, h.o2, h.o3, h.o4, h.o5, h.o6⟩
end
/-- Behind the copy: both pairs go together. -/
structure Cc (w : World) (sb bm rb tb tm qb i : Nat) (wr : World) : Prop where
  ex : ∃ N V M X, N ≤ i ∧ M ≤ i ∧ Cq w sb bm N V rb V tb tm M X qb X wr
/-- Ahead of the clone (the store lies ahead of the document's). -/
structure Ca (w : World) (sb bm rb : Nat) (i : Nat) (wr : World) : Prop where
  pl : Pl10 w sb bm rb i wr
  a1 : sb < rb
  a2 : bm < rb
set_option maxHeartbeats 8000000 in
set_option maxRecDepth 100000 in
theorem storeClones_walk (A1 : Option Addr) (c1 : Nat) (z1 : List Oe) (A2 : Option Addr) (c2 : Nat) (z2 : List Oe) (A3 : Option Addr) (c3 : Nat) (z3 : List Oe) (w : World) (h1 : IsOps w A1 z1 c1) (h2 : IsOps w A2 z2 c2) (h3 : IsOps w A3 z3 c3) :
    Calls Try.prog 6 #[.slice A1 z1.length c1, .slice A2 z2.length c2, .slice A3 z3.length c3] w fun e w' => e = .returned (.bool true) ∧ Below w.heap.size w w' := by
  have HL1 := Lib.hid h1
  have HL2 := Lib.hid h2
  have HL3 := Lib.hid h3
  obtain ⟨Z, hZ⟩ : ∃ Z, stCells Kv.new = Z := ⟨_, rfl⟩
  have hz : ∀ w, (zeroValue 40).run Try.prog w = .ok (.agg Z) w := fun w => hZ ▸ rzero w
  have HZ := Lib.hid hZ
  clear h1 h2 h3 hZ
  have hlen : (60 < z1.length ∨ (z1.length ≤ 60 ∧ 60 < z2.length) ∨ (z1.length ≤ 60 ∧ z2.length ≤ 60 ∧ 60 < z3.length)) ∨ (z1.length ≤ 60 ∧ z2.length ≤ 60 ∧ z3.length ≤ 60) := by omega
  rcases hlen with hlong | ⟨hn1, hn2, hn3⟩
  · rcases hlong with hn | ⟨hn, hn'⟩ | ⟨hn, hn', hn''⟩
    all_goals
      go_enter Try.func6, Try.ntmps6
      go_wp2_with fail
      refine (sn_new w _ (Below.refl _ _)).mono ?_
      rintro e v1 ⟨sb, bm, rfl, h1, _, _, _⟩
      have H1 := Lib.hid h1
      clear h1
      go_wp2_with fail
      refine (wakes10_any _).mono ?_
      rintro e v8 ⟨rfl, hb⟩
      have H8 := Lib.hid (H1.out.below hb)
      clear hb
      go_wp2_with fail
      go_ret
      exact ⟨rfl, H8.out.low⟩
  · go_enter Try.func6, Try.ntmps6
    go_wp2_with fail
    refine (sn_new w _ (Below.refl _ _)).mono ?_
    rintro e v1 ⟨sb, bm, rfl, h1, _, _, _⟩
    have H1 := Lib.hid h1
    clear h1
    go_wp2_with fail
    have HQ := Lib.hid (show Ca w sb bm v1.heap.size 0 (v1.alloc (.cells Z 40)) from ⟨⟨0, Kv.new, Nat.le_refl _, Sq.new H1.out HZ.out⟩, H1.out.st.lt.1, H1.out.st.lt.2⟩)
    obtain ⟨rb, hrb⟩ : ∃ rb, v1.heap.size = rb := ⟨_, rfl⟩
    obtain ⟨v2, hv2⟩ : ∃ v2, v1.alloc (.cells Z 40) = v2 := ⟨_, rfl⟩
    rw [hrb, hv2] at HQ
    rw [hrb, hv2]
    clear hrb hv2
    go_loopw [41] (fun y wr => ∃ i : Nat, y = .int .i64 i ∧ i ≤ z1.length ∧ Hid (Ca w sb bm rb i wr)) (fun y _ => z1.length - (intOf y).toNat)
    case atStart => exact ⟨0, rfl, by omega, HQ⟩
    case round =>
      obtain ⟨i, rfl, hi, HS⟩ := hrel
      by_cases hlt : i < z1.length
      · obtain ⟨N, V, hN, hS⟩ := HS.out.pl.ex
        have HS2 := Lib.hid hS
        obtain ⟨ad, ea, hb, k0, k1, k2⟩ := ope_at (HL1.out.has.below HS2.out.low (Nat.le_refl _)) hlt
        subst ea
        obtain ⟨r, hr⟩ : ∃ r, z1[i] = r := ⟨_, rfl⟩
        obtain ⟨x, y, z⟩ := r
        rw [hr] at k0 k1 k2
        simp only at k0 k1 k2
        clear hS
        go_wp2_with fail
        refine (HS2.out.left (by omega) _ _ _).mono ?_
        rintro e v3 ⟨rfl, h3⟩
        have H3 := Lib.hid h3
        obtain ⟨ad', ea, _, d0, d1, d2⟩ := ope_at (HL1.out.has.below h3.low (Nat.le_refl _)) hlt
        obtain rfl := Option.some.inj ea
        rw [hr] at d0 d1 d2
        simp only at d0 d1 d2
        obtain ⟨q, hq⟩ : ∃ q, (storeS V x y z).1 = q := ⟨_, rfl⟩
        rw [hq]
        clear ea h3 k0 k1 k2 hq hr
        go_wp2_with fail
        refine (H3.out.right _ _ _).mono ?_
        rintro e v4 ⟨rfl, h4⟩
        have HX := Lib.hid (show Ca w sb bm rb (i + 1) v4 from ⟨⟨N + 1, _, by omega, h4⟩, HS.out.a1, HS.out.a2⟩)
        obtain ⟨q, hq⟩ : ∃ q, (storeS V x y z).1 = q := ⟨_, rfl⟩
        rw [hq]
        clear h4 hq
        go_wp2_with fail
        go_roundw
        case rel => exact ⟨i + 1, by go_num, by omega, HX⟩
        case measure => simp [intOf]; omega
      · obtain ⟨N, V, hN, hS⟩ := HS.out.pl.ex
        have HS2 := Lib.hid hS
        have HNn := Lib.hid (show N ≤ 60 by omega)
        clear hS
        go_wp2_with fail
        refine (sclone_any HS2.out.s.st).mono ?_
        rintro e v3 ⟨tb, tm, rfl, ht3, ht0, ht1, hb3⟩
        have HS3 := Lib.hid (HS2.out.below hb3)
        have HT3 := Lib.hid (show Sn w tb tm N V v3 from ⟨ht3, HS3.out.s.low, Nat.le_trans HS2.out.low.size ht0, Nat.le_trans HS2.out.low.size ht1⟩)
        have HOr := Lib.hid (show rb < tb ∧ rb < tm from by have := Blk.lt HS2.out.r; omega)
        clear ht3 ht0 ht1 hb3
        go_wp2_with fail
        refine (ssame_any HS3.out.s.st HT3.out.st).mono ?_
        rintro e v4 ⟨b, rfl, hb, hB4⟩
        obtain rfl : b = true := hb.2 rfl
        have HS4 := Lib.hid (HS3.out.below hB4)
        have HT4 := Lib.hid (HT3.out.below hB4)
        clear hb hB4
        have hld := rload HS4.out.r
        have hst := rstore_cells v4 V Kv.new
        have hsz := stCells_size V
        rw [HZ.out] at hst
        go_wp2_with fail
        refine wp_load_whole _ _ rfl rb (stCells V) rfl hld ?_
        clear hld
        obtain ⟨C, hC⟩ : ∃ C, stCells V = C := ⟨_, rfl⟩
        have HCc := Lib.hid hC
        rw [hC] at hst hsz
        rw [hC]
        clear hC
        go_wp2_with fail
        have HQ0 := Lib.hid (show Cq w sb bm N V rb V tb tm N V v4.heap.size V (v4.alloc (.cells C 40)) from by
          have hb : Below v4.heap.size v4 (v4.alloc (.cells C 40)) := (Below.refl _ _).alloc (Nat.le_refl _) _
          have hr := HOr.out
          exact ⟨HS4.out.s.below hb, HS4.out.r.below hb, HT4.out.below hb, HCc.out ▸ Blk.new _ _ _, HS4.out.ok, HS4.out.ok, HS4.out.b2, HS.out.a1, HS.out.a2, hr.1, hr.2, HT4.out.st.lt.1, HT4.out.st.lt.2⟩)
        obtain ⟨qb, hqb⟩ : ∃ qb, v4.heap.size = qb := ⟨_, rfl⟩
        obtain ⟨v5, hv5⟩ : ∃ v5, v4.alloc (.cells C 40) = v5 := ⟨_, rfl⟩
        rw [hqb, hv5] at HQ0
        rw [hqb, hv5]
        have HQ2 := Lib.hid (show Cc w sb bm rb tb tm qb (60 + 0) v5 from ⟨N, V, N, V, by have := HNn.out; omega, by have := HNn.out; omega, HQ0.out⟩)
        clear hqb hv5 hst hsz hi hN hlt HS HS2 HS3 HS4 HT3 HT4 HCc HQ0
        go_loopw [72] (fun y wr => ∃ i : Nat, y = .int .i64 i ∧ i ≤ z2.length ∧ Hid (Cc w sb bm rb tb tm qb (60 + i) wr)) (fun y _ => z2.length - (intOf y).toNat)
        case atStart => exact ⟨0, rfl, by omega, HQ2⟩
        case round =>
          obtain ⟨i, rfl, hi, HS⟩ := hrel
          by_cases hlt : i < z2.length
          · obtain ⟨N, V, M, X, hN, hM, hS⟩ := HS.out.ex
            have HS2 := Lib.hid hS
            obtain ⟨ad, ea, hb, k0, k1, k2⟩ := ope_at (HL2.out.has.below HS2.out.s.low (Nat.le_refl _)) hlt
            subst ea
            obtain ⟨r, hr⟩ : ∃ r, z2[i] = r := ⟨_, rfl⟩
            obtain ⟨x, y, z⟩ := r
            rw [hr] at k0 k1 k2
            simp only at k0 k1 k2
            clear hS
            go_wp2_with fail
            refine (HS2.out.doS (by omega) _ _ _).mono ?_
            rintro e v3 ⟨rfl, h3⟩
            have H3 := Lib.hid h3
            obtain ⟨ad', ea, _, d0, d1, d2⟩ := ope_at (HL2.out.has.below h3.s.low (Nat.le_refl _)) hlt
            obtain rfl := Option.some.inj ea
            rw [hr] at d0 d1 d2
            simp only at d0 d1 d2
            obtain ⟨q, hq⟩ : ∃ q, (storeS V x y z).1 = q := ⟨_, rfl⟩
            rw [hq]
            clear ea h3 k0 k1 k2 hq hr
            go_wp2_with fail
            refine (H3.out.doR _ _ _).mono ?_
            rintro e v4 ⟨rfl, h4⟩
            have HX := Lib.hid (show Cc w sb bm rb tb tm qb (60 + (i + 1)) v4 from ⟨N + 1, _, M, X, by omega, by omega, h4⟩)
            obtain ⟨q, hq⟩ : ∃ q, (storeS V x y z).1 = q := ⟨_, rfl⟩
            rw [hq]
            clear h4 hq
            go_wp2_with fail
            go_roundw
            case rel => exact ⟨i + 1, by go_num, by omega, HX⟩
            case measure => simp [intOf]; omega
          · obtain rfl : i = z2.length := by omega
            clear hlt hi
            have HQ2 := Lib.hid (show Cc w sb bm rb tb tm qb (120 + 0) wr from by
              obtain ⟨N, V, M, X, hN, hM, hS⟩ := HS.out.ex
              exact ⟨N, V, M, X, by omega, by omega, hS⟩)
            clear HS
            go_wp2_with fail
            go_loopw [90] (fun y wr => ∃ i : Nat, y = .int .i64 i ∧ i ≤ z3.length ∧ Hid (Cc w sb bm rb tb tm qb (120 + i) wr)) (fun y _ => z3.length - (intOf y).toNat)
            case atStart => exact ⟨0, rfl, by omega, HQ2⟩
            case round =>
              obtain ⟨i, rfl, hi, HS⟩ := hrel
              by_cases hlt : i < z3.length
              · obtain ⟨N, V, M, X, hN, hM, hS⟩ := HS.out.ex
                have HS2 := Lib.hid hS
                obtain ⟨ad, ea, hb, k0, k1, k2⟩ := ope_at (HL3.out.has.below HS2.out.s.low (Nat.le_refl _)) hlt
                subst ea
                obtain ⟨r, hr⟩ : ∃ r, z3[i] = r := ⟨_, rfl⟩
                obtain ⟨x, y, z⟩ := r
                rw [hr] at k0 k1 k2
                simp only at k0 k1 k2
                clear hS
                go_wp2_with fail
                refine (HS2.out.doT (by omega) _ _ _).mono ?_
                rintro e v3 ⟨rfl, h3⟩
                have H3 := Lib.hid h3
                obtain ⟨ad', ea, _, d0, d1, d2⟩ := ope_at (HL3.out.has.below h3.s.low (Nat.le_refl _)) hlt
                obtain rfl := Option.some.inj ea
                rw [hr] at d0 d1 d2
                simp only at d0 d1 d2
                obtain ⟨q, hq⟩ : ∃ q, (storeS X x y z).1 = q := ⟨_, rfl⟩
                rw [hq]
                clear ea h3 k0 k1 k2 hq hr
                go_wp2_with fail
                refine (H3.out.doQ _ _ _).mono ?_
                rintro e v4 ⟨rfl, h4⟩
                have HX := Lib.hid (show Cc w sb bm rb tb tm qb (120 + (i + 1)) v4 from ⟨N, V, M + 1, _, by omega, by omega, h4⟩)
                obtain ⟨q, hq⟩ : ∃ q, (storeS X x y z).1 = q := ⟨_, rfl⟩
                rw [hq]
                clear h4 hq
                go_wp2_with fail
                go_roundw
                case rel => exact ⟨i + 1, by go_num, by omega, HX⟩
                case measure => simp [intOf]; omega
              · obtain rfl : i = z3.length := by omega
                clear hlt hi
                obtain ⟨N, V, M, X, hN, hM, hS⟩ := HS.out.ex
                obtain ⟨b, hb, heq⟩ := requal hS.uo hS.yo
                obtain ⟨C1, hC1⟩ : ∃ C, stCells V = C := ⟨_, rfl⟩
                obtain ⟨C2, hC2⟩ : ∃ C, stCells X = C := ⟨_, rfl⟩
                rw [hC1, hC2] at heq
                have HLow := Lib.hid hS.s.low
                have KC := Lib.hid (fun d os => hS.below (below_regrown wr d os))
                have KR := fun d os => Calls.regrown_of (right_any (KC.out d os).s.st (KC.out d os).r)
                have KT := fun d os => Calls.regrown_of (right_any (KC.out d os).t.st (KC.out d os).q)
                have KS := fun d os => Calls.regrown_of (v := .bool b) ((ssame_any (KC.out d os).s.st (KC.out d os).t.st).mono fun e w' ⟨b', he, hb', hB⟩ => ⟨by rw [he, show b' = b from Bool.eq_iff_iff.2 (hb'.trans hb.symm)], hB⟩)
                have KW := fun d os => Calls.regrown_of (wakes10_any (grow (redrawn wr d) os))
                have L1 : ∀ w', (∃ p : Regrown, w' = grow (redrawn wr p.d) p.os) → (loadVar 40 ⟨rb, 0, none⟩).run Try.prog w' = .ok (.agg C1) w' := fun w' ⟨p, hp⟩ => by
                  subst hp
                  exact hC1 ▸ rload (KC.out p.d p.os).r
                have L2 : ∀ w', (∃ p : Regrown, w' = grow (redrawn wr p.d) p.os) → (loadVar 40 ⟨qb, 0, none⟩).run Try.prog w' = .ok (.agg C2) w' := fun w' ⟨p, hp⟩ => by
                  subst hp
                  exact hC2 ▸ rload (KC.out p.d p.os).q
                have HL1 := Lib.hid L1
                have HL2 := Lib.hid L2
                have hbb : (b == b) = true := by simp
                have G := fun (w : World) => run_eqGuard_agg (P := Try.prog) w .eql 40 (.tmp 118) (.tmp 119) C1 C2 (by kernel_rfl)
                clear hS hC1 hC2 hb L1 L2 HS HQ HQ2 H1 HL3
                go_wp2_with fail
                refine wp_region_quiet_below (by kernel_rfl) (by kernel_rfl) ?_
                refine wq_out ?_
                refine wq_do (by kernel_rfl) (fun K hK => ?_)
                go_simp
                refine hK _ ?_
                clear hK K
                refine wq_do (by kernel_rfl) (fun K hK => ?_)
                go_simp
                refine hK _ ?_
                clear hK K
                refine wq_do (by kernel_rfl) (fun K hK => ?_)
                go_simp
                apply Exists.intro
                refine ⟨fun a => ?_, hK _ ?_⟩
                · exact KR a.d a.os
                clear hK K
                refine wq_do (by kernel_rfl) (fun K hK => ?_)
                go_simp
                refine hK _ ?_
                clear hK K
                refine wq_do (by kernel_rfl) (fun K hK => ?_)
                go_simp
                refine hK _ ?_
                clear hK K
                refine wq_do (by kernel_rfl) (fun K hK => ?_)
                go_simp
                apply Exists.intro
                refine ⟨fun a => ?_, hK _ ?_⟩
                · exact KT a.d a.os
                clear hK K
                refine wq_do (by kernel_rfl) (fun K hK => ?_)
                go_simp
                refine hK _ ?_
                clear hK K
                refine wq_do (by kernel_rfl) (fun K hK => ?_)
                go_simp
                refine hK _ ?_
                clear hK K
                refine wq_do (by kernel_rfl) (fun K hK => ?_)
                go_simp
                refine hK _ ?_
                clear hK K
                refine wq_do (by kernel_rfl) (fun K hK => ?_)
                go_simp
                refine hK _ ?_
                clear hK K
                refine wq_do (by kernel_rfl) (fun K hK => ?_)
                go_simp
                apply Exists.intro
                refine ⟨fun a => ?_, hK _ ?_⟩
                · exact KS a.d a.os
                clear hK K
                refine wq_do (by kernel_rfl) (fun K hK => ?_)
                go_simp
                refine hK _ ?_
                clear hK K
                refine wq_do (by kernel_rfl) (fun K hK => ?_)
                go_simp
                refine hK _ ?_
                clear hK K
                refine wq_do (by kernel_rfl) (fun K hK => ?_)
                refine quiet_load_whole _ _ rfl rb C1 rfl HL1.out ?_
                refine hK _ ?_
                clear hK K
                go_frame
                refine wq_do (by kernel_rfl) (fun K hK => ?_)
                refine quiet_load_whole _ _ rfl qb C2 rfl HL2.out ?_
                refine hK _ ?_
                clear hK K
                go_frame
                refine wq_do (by kernel_rfl) (fun K hK => ?_)
                go_simp
                refine hK _ ?_
                clear hK K
                refine wq_do (by kernel_rfl) (fun K hK => ?_)
                go_simp
                refine hK _ ?_
                clear hK K
                refine wq_do (by kernel_rfl) (fun K hK => ?_)
                go_simp
                refine hK _ ?_
                clear hK K
                refine wq_do (by kernel_rfl) (fun K hK => ?_)
                go_simp
                refine hK _ ?_
                clear hK K
                refine wq_do (by kernel_rfl) (fun K hK => ?_)
                go_simp
                apply Exists.intro
                refine ⟨fun a => ?_, hK _ ?_⟩
                · exact KW a.d a.os
                clear hK K
                refine wq_do (by kernel_rfl) (fun K hK => ?_)
                go_simp
                refine hK _ ?_
                clear hK K
                refine wq_do (by kernel_rfl) (fun K hK => ?_)
                go_simp
                refine hK _ ?_
                clear hK K
                refine wq_nil ?_
                intro _ hw'
                obtain ⟨⟨dq, osq⟩, hw''⟩ := hw'
                subst hw''
                have HZ := Lib.hid (HLow.out.trans ((below_regrown wr dq osq).mono HLow.out.size))
                clear KR KT KS KW HL1 HL2
                go_wp2_with fail
                go_ret
                exact ⟨rfl, HZ.out⟩
end Go.Proofs.Ytnbmhcgalpnmeaa
