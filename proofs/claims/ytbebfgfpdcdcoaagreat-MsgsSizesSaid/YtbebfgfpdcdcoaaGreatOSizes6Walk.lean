/- The walk of MsgsSizes: it returns true for any numbers. -/
import Derived.Test.YtbebfgfpdcdcoaaGreatOS9
import Derived.Test.YtbebfgfpdcdcoaaGreatOS0
namespace Go.Proofs.YtbebfgfpdcdcoaaGreat
open Go.RowKit Go.Sort

theorem run_make_row1 {P : Program} (t e : TypeId) (i : TypeInfo) (z : Value) (ht : P.underlying t = some (.slice e)) (hi : P.info? e = some i) (hz : i.zero = some z)
    (kl kc : IntKind) (n c : Nat) (hnc : n ≤ c) (hbytes : i.bytes * c ≤ 281474976710656) (h63 : c ≤ 9223372036854775807) (w : World) :
    (Instr.makeSlice t (.int kl (n : Int)) (.int kc (c : Int))).run P w = .ok (.slice (some ⟨w.heap.size, 0, none⟩) n c) (w.alloc (.cells (madeCells z.cells (c * i.size)) e)) := by
  have hb : (i.bytes : Int) * (c : Int) ≤ 281474976710656 := by
    have h : ((i.bytes * c : Nat) : Int) ≤ 281474976710656 := by omega
    rwa [Int.natCast_mul] at h
  have hr := run_make (P := P) w t e i z ht hi hz kl kc n c (by omega) (by omega) hb (by omega)
  simp only [Int.toNat_natCast] at hr
  exact hr
theorem envS_len {k : Int} {zs es : List Int} (h : envS k zs = some es) : es.length ≤ 65536 := by
  by_cases hk : 0 ≤ k ∧ k < 1099511627776
  · obtain ⟨m, rfl⟩ := Int.eq_ofNat_of_zero_le hk.1
    rw [envS_in (by omega)] at h
    split at h
    · injection h with h; rw [← h, List.length_append]; assumption
    · cases h
  · rw [envS_out (by omega)] at h; cases h
theorem made_one (v : Value) (n : Nat) : (madeCells #[v] n).toList = List.replicate n v := by
  apply List.ext_getElem?
  intro j
  by_cases h : j < n <;> simp [madeCells, h, Nat.mod_one]
set_option maxHeartbeats 8000000 in
set_option maxRecDepth 100000 in
theorem msgsSizes_any (k n0 : Int) (w : World) (f1 : -9223372036854775808 ≤ n0) (f2 : n0 ≤ 9223372036854775807) :
    Calls Tryz.prog 5 #[.int .i64 k, .int .i64 n0] w fun e w' => e = .returned (.bool true) ∧ Below w.heap.size w w' := by
  obtain ⟨i0, hi0, hz0, hz1, hz2⟩ := info_parts Tryz.info5
  have HW := Lib.hid (fun w => within_any n0 16 (by decide) (by decide) f1 f2 w)
  obtain ⟨q, hq, hq2⟩ : ∃ q : Nat, n0 % 16 = (q : Int) ∧ q < 16 := ⟨(n0 % 16).toNat, by have := Int.emod_nonneg n0 (show (16 : Int) ≠ 0 by omega); omega, by have := Int.emod_nonneg n0 (show (16 : Int) ≠ 0 by omega); have := Int.emod_lt_of_pos n0 (show (0 : Int) < 16 by omega); omega⟩
  rw [hq] at HW
  obtain ⟨n, hn⟩ : ∃ n : Nat, 65524 + q = n := ⟨_, rfl⟩
  have hqn : (65524 : Int) + (q : Int) = (n : Int) := by omega
  have hn1 : 65524 ≤ n := by omega
  have hn2 : n ≤ 65540 := by omega
  have hmk : ∀ w : World, (Instr.makeSlice 39 (.int .i64 (n : Int)) (.int .i64 (n : Int))).run Tryz.prog w = .ok (.slice (some ⟨w.heap.size, 0, none⟩) n n) (w.alloc (.cells (madeCells #[.int .u8 0] n) 5)) := fun w => by
    have h := run_make_row1 39 5 i0 _ Tryz.underlying39 hi0 hz0 .i64 .i64 n n (Nat.le_refl _) (by rw [hz2]; omega) (by omega) w
    rw [hz1, Nat.mul_one] at h
    exact h
  have HV := Lib.hid (fun w : World => show Has (w.alloc (.cells (madeCells #[.int .u8 0] n) 5)) (w.alloc (.cells (madeCells #[.int .u8 0] n) 5)).heap.size (some ⟨w.heap.size, 0, none⟩) (u8s (List.replicate n 0)) from by
    have h := (Blk.new w 5 (madeCells #[.int .u8 0] n)).has (B := w.heap.size + 1) (Nat.lt_succ_self _)
    rw [made_one] at h
    rw [World.size_alloc]
    simpa [u8s] using h)
  have HB0 := Lib.hid (fun cs => show Below w.heap.size w (w.alloc (.cells cs 5)) from (Below.refl _ w).alloc (Nat.le_refl _) _)
  clear hq f1 f2 hn
  go_enter Tryz.func5, Tryz.ntmps5
  go_wp2_with fail
  refine (HW.out _).mono ?_
  rintro e w' ⟨rfl, rfl⟩
  go_wp2_with fail
  refine (envelope_any k (zs := List.replicate n 0) (n := n) (c := n) (by simp) (by omega) (w.alloc (.cells (madeCells #[.int .u8 0] n) 5)) (HV.out w) (fun h => by cases h)).mono ?_
  rintro e w1 ⟨hb1, hx⟩
  have HB1 := Lib.hid ((HB0.out _).trans (hb1.mono (HB0.out _).size))
  clear hb1 HV HW hmk HB0
  -- the seal's bytes
  obtain ⟨ans, hans⟩ : ∃ ans, envS k (List.replicate n 0) = ans := ⟨_, rfl⟩
  rw [hans] at hx
  have hrest : ∀ (A1 : Option Addr) (l1 c1 : Nat) (b1 : Bool), True := fun _ _ _ _ => trivial
  clear hrest
  by_cases hk : 0 ≤ k ∧ k < 1099511627776
  case pos =>
    obtain ⟨m, rfl⟩ := Int.eq_ofNat_of_zero_le hk.1
    have hm1 : m < 1099511627776 := by omega
    have hE := envS_in hm1 (List.replicate n 0)
    have hl := enc_len 5 m (by omega)
    have HR := Lib.hid (fun w => refnumber_row m hm1 w)
    obtain ⟨q2, hq3⟩ : ∃ q, (enc m).length = q := ⟨_, rfl⟩
    rw [hans, List.length_replicate, hq3] at hE
    rw [hq3] at hl
    have HQ := Lib.hid hq3
    clear hk hans hq3
    by_cases hs : q2 + n ≤ 65536
    · rw [if_pos hs] at hE
      subst hE
      have t0 : decide ((q2 : Int) + (n : Int) ≤ 65536) = true := decide_eq_true (by omega)
      rcases hx with ⟨es, A1, c1, hes, rfl, ho⟩ | ⟨hes, _⟩
      case inr => cases hes
      have hle : es.length = q2 + n := by injection hes with hes; rw [← hes, List.length_append, List.length_replicate, HQ.out]
      obtain ⟨el, hel⟩ : ∃ el, es.length = el := ⟨_, rfl⟩
      rw [hel] at hle ⊢
      have t1 : ((el : Int) != (q2 : Int) + (n : Int)) = false := by simp; omega
      clear hes ho hel hle
      go_wp2_with fail
      refine (HR.out _).mono ?_
      rintro e w2 ⟨g2, c2, rfl, _, hb2⟩
      rw [HQ.out]
      have HB2 := Lib.hid (HB1.out.trans (hb2.mono HB1.out.size))
      clear hb2 HB1 HR HQ
      go_wp2_with fail
      have hbA : Below w2.heap.size w2 (w2.alloc (.cells #[.int .i64 6, .int .i64 0, .int .i64 0, .int .i64 0, .int .i64 0, .int .i64 0, .slice none 0 0, .slice none 0 0, .slice none 0 0, .slice none 0 0] 38)) := (Below.refl _ _).alloc (Nat.le_refl _) _
      have HBa := Lib.hid (HB2.out.trans (hbA.mono HB2.out.size))
      have HMa := Lib.hid (Blk.new w2 38 #[.int .i64 6, .int .i64 0, .int .i64 0, .int .i64 0, .int .i64 0, .int .i64 0, .slice none 0 0, .slice none 0 0, .slice none 0 0, .slice none 0 0])
      obtain ⟨wa, hwa⟩ : ∃ wa, (w2.alloc (.cells #[.int .i64 6, .int .i64 0, .int .i64 0, .int .i64 0, .int .i64 0, .int .i64 0, .slice none 0 0, .slice none 0 0, .slice none 0 0, .slice none 0 0] 38)) = wa := ⟨_, rfl⟩
      obtain ⟨ga, hga⟩ : ∃ g, w2.heap.size = g := ⟨_, rfl⟩
      rw [hwa] at HBa HMa ⊢
      rw [hga] at HMa ⊢
      clear hbA hwa hga
      refine (rbody_msg msC wa (msC_in _ _) (by decide)).mono ?_
      rintro e wb ⟨hbB, ⟨bs, Xb, cb, hbs, rfl, ho⟩ | ⟨hbs, rfl⟩⟩
      case inr => rw [show msC.m = mC from rfl, mC_body] at hbs; cases hbs
      rw [show msC.m = mC from rfl, mC_body] at hbs
      have hbs : bsC = bs := by injection hbs
      subst hbs
      have HBb := Lib.hid (HBa.out.trans (hbB.mono HBa.out.size))
      have HMb := Lib.hid (HMa.out.below hbB HMa.out.lt)
      have HOb := Lib.hid (Has.own ho)
      have hnb := gr_none ho
      clear hbB ho HBa HMa
      go_wp2_with fail
      refine (envelope_any (m : Int) (zs := bsC) (n := 10) rfl (by decide) _ HOb.out hnb).mono ?_
      rintro e wc ⟨hbC, hc⟩
      have HBc := Lib.hid (HBb.out.trans (hbC.mono HBb.out.size))
      have HMc := Lib.hid (HMb.out.below hbC HMb.out.lt)
      have HOc := Lib.hid ((HOb.out.below hbC (Nat.le_refl _)).more hbC.size)
      clear hbC HBb HMb HOb
      obtain ⟨an2, han2⟩ : ∃ an, envS (m : Int) bsC = an := ⟨_, rfl⟩
      have KE := Lib.hid (renvelope_any (m : Int) (zs := bsC) (n := 10) (c := cb) (A := Xb) rfl (by decide) wc HOc.out hnb)
      rw [han2] at hc KE
      have HLen := Lib.hid (fun es (h : an2 = some es) => envS_len (han2.trans h))
      clear han2 HOc hnb
      rcases hc with ⟨es, Xc, cc, hes, rfl, hoc⟩ | ⟨hes, rfl⟩
      · subst hes
        have HXc := Lib.hid (Has.own hoc)
        clear hoc
        go_wp2_with fail
        refine KE.out.mono ?_
        rintro e wd ⟨hbD, ⟨fs, Xd, cd, hfs, rfl, hod⟩ | ⟨hfs, rfl⟩⟩
        case inr => cases hfs
        have hfe : es = fs := by injection hfs
        subst hfe
        have HBd := Lib.hid (HBc.out.trans (hbD.mono HBc.out.size))
        have HMd := Lib.hid (HMc.out.below hbD HMc.out.lt)
        have HXd := Lib.hid ((HXc.out.below hbD (Nat.le_refl _)).more hbD.size)
        have HYd := Lib.hid (Has.own hod)
        have hsz : es.length ≤ 9223372036854775806 := by have := HLen.out es rfl; omega
        obtain ⟨el, hel⟩ : ∃ el, es.length = el := ⟨_, rfl⟩
        have HEl := Lib.hid hel
        rw [hel] at hsz ⊢
        have KS0 := Lib.hid (fun w' (hw : Below wd.heap.size wd w') => (same_is (A := Xc) (A' := Xd) (c := cc) (c' := cd) HEl.out HEl.out hsz (r := true) (by unfold sameB; exact decide_eq_true rfl) w' (HXd.out.below hw (Nat.le_refl _)) (HYd.out.below hw (Nat.le_refl _))).mono (R' := fun e w2 => e = .returned (.bool true) ∧ Below w'.heap.size w' w2) (fun e w2 h => ⟨h.1, by obtain ⟨m, rfl⟩ := h.2; exact below_drewN (Below.refl _ _) m⟩))
        clear hod hel
        clear hbD hfs HBc HMc KE
        go_wp2_with fail
        have KS := fun d os => Calls.regrown_of (KS0.out (grow (redrawn wd d) os) (below_regrown wd d os))
        have KR := fun d os => Calls.regrown_of (rmC_form (grow (redrawn wd d) os))
        have KF := fun d os => Calls.regrown_of (mC_form (grow (redrawn wd d) os))
        have KW := fun d os => Calls.regrown_of (wakes6_any (grow (redrawn wd d) os))
        obtain ⟨d0, d1, d2, d3, d4, d5, d6, d7, d8, d9⟩ := blk_cells10 HMd.out
        clear KS0 HMd
        refine wp_region_quiet_below (by kernel_rfl) (by kernel_rfl) ?_
        refine wq_out ?_
        refine wq_do (by kernel_rfl) (fun K hK => ?_)
        go_simp
        refine hK _ ?_
        clear hK K
        refine wq_do (by kernel_rfl) (fun K hK => ?_)
        go_simp
        refine hK _ ?_
        clear hK K
        refine wq_do (by kernel_rfl) (fun K hK => ?_)
        go_simp
        refine hK _ ?_
        clear hK K
        refine wq_do (by kernel_rfl) (fun K hK => ?_)
        go_simp
        refine hK _ ?_
        clear hK K
        refine wq_do (by kernel_rfl) (fun K hK => ?_)
        go_simp
        refine hK _ ?_
        clear hK K
        refine wq_do (by kernel_rfl) (fun K hK => ?_)
        go_simp
        refine hK _ ?_
        clear hK K
        refine wq_do (by kernel_rfl) (fun K hK => ?_)
        go_simp
        apply Exists.intro
        refine ⟨fun a => ?_, hK _ ?_⟩
        · exact KS a.d a.os
        clear hK K
        refine wq_do (by kernel_rfl) (fun K hK => ?_)
        go_simp
        refine hK _ ?_
        clear hK K
        refine wq_do (by kernel_rfl) (fun K hK => ?_)
        go_simp
        refine hK _ ?_
        clear hK K
        refine wq_do (by kernel_rfl) (fun K hK => ?_)
        go_simp
        refine hK _ ?_
        clear hK K
        refine wq_do (by kernel_rfl) (fun K hK => ?_)
        go_simp
        apply Exists.intro
        refine ⟨fun a => ?_, hK _ ?_⟩
        · exact KR a.d a.os
        clear hK K
        refine wq_do (by kernel_rfl) (fun K hK => ?_)
        go_simp
        refine hK _ ?_
        clear hK K
        refine wq_do (by kernel_rfl) (fun K hK => ?_)
        go_simp
        apply Exists.intro
        refine ⟨fun a => ?_, hK _ ?_⟩
        · exact KF a.d a.os
        clear hK K
        refine wq_do (by kernel_rfl) (fun K hK => ?_)
        go_simp
        refine hK _ ?_
        clear hK K
        refine wq_do (by kernel_rfl) (fun K hK => ?_)
        go_simp
        refine hK _ ?_
        clear hK K
        refine wq_do (by kernel_rfl) (fun K hK => ?_)
        go_simp
        refine hK _ ?_
        clear hK K
        refine wq_do (by kernel_rfl) (fun K hK => ?_)
        go_simp
        apply Exists.intro
        refine ⟨fun a => ?_, hK _ ?_⟩
        · exact KW a.d a.os
        clear hK K
        refine wq_do (by kernel_rfl) (fun K hK => ?_)
        go_simp
        refine hK _ ?_
        clear hK K
        refine wq_do (by kernel_rfl) (fun K hK => ?_)
        go_simp
        refine hK _ ?_
        clear hK K
        refine wq_nil ?_
        intro _ hw'
        obtain ⟨⟨dq, osq⟩, hw''⟩ := hw'
        subst hw''
        have HZ := Lib.hid (HBd.out.trans ((below_regrown wd dq osq).mono HBd.out.size))
        clear KS KR KF KW d0 d1 d2 d3 d4 d5 d6 d7 d8 d9
        go_wp2_with fail
        go_ret
        exact ⟨rfl, HZ.out⟩
      · subst hes
        go_wp2_with fail
        refine KE.out.mono ?_
        rintro e wd ⟨hbD, ⟨fs, Xd, cd, hfs, rfl, hod⟩ | ⟨hfs, rfl⟩⟩
        case inl => cases hfs
        have HBd := Lib.hid (HBc.out.trans (hbD.mono HBc.out.size))
        have HMd := Lib.hid (HMc.out.below hbD HMc.out.lt)
        have KS0 := Lib.hid (fun w' (hw : Below wd.heap.size wd w') => (same_is (A := none) (A' := none) (c := 0) (c' := 0) (zs := []) (ys := []) rfl rfl (by decide) (r := true) (by decide) w' (Has.nil _ 0 _) (Has.nil _ _ _)).mono (R' := fun e w2 => e = .returned (.bool true) ∧ Below w'.heap.size w' w2) (fun e w2 h => ⟨h.1, by obtain ⟨m, rfl⟩ := h.2; exact below_drewN (Below.refl _ _) m⟩))
        clear hbD hfs HBc HMc KE
        go_wp2_with fail
        have KS := fun d os => Calls.regrown_of (KS0.out (grow (redrawn wd d) os) (below_regrown wd d os))
        have KR := fun d os => Calls.regrown_of (rmC_form (grow (redrawn wd d) os))
        have KF := fun d os => Calls.regrown_of (mC_form (grow (redrawn wd d) os))
        have KW := fun d os => Calls.regrown_of (wakes6_any (grow (redrawn wd d) os))
        obtain ⟨d0, d1, d2, d3, d4, d5, d6, d7, d8, d9⟩ := blk_cells10 HMd.out
        clear KS0 HMd
        refine wp_region_quiet_below (by kernel_rfl) (by kernel_rfl) ?_
        refine wq_out ?_
        refine wq_do (by kernel_rfl) (fun K hK => ?_)
        go_simp
        refine hK _ ?_
        clear hK K
        refine wq_do (by kernel_rfl) (fun K hK => ?_)
        go_simp
        refine hK _ ?_
        clear hK K
        refine wq_do (by kernel_rfl) (fun K hK => ?_)
        go_simp
        refine hK _ ?_
        clear hK K
        refine wq_do (by kernel_rfl) (fun K hK => ?_)
        go_simp
        refine hK _ ?_
        clear hK K
        refine wq_do (by kernel_rfl) (fun K hK => ?_)
        go_simp
        refine hK _ ?_
        clear hK K
        refine wq_do (by kernel_rfl) (fun K hK => ?_)
        go_simp
        refine hK _ ?_
        clear hK K
        refine wq_do (by kernel_rfl) (fun K hK => ?_)
        go_simp
        apply Exists.intro
        refine ⟨fun a => ?_, hK _ ?_⟩
        · exact KS a.d a.os
        clear hK K
        refine wq_do (by kernel_rfl) (fun K hK => ?_)
        go_simp
        refine hK _ ?_
        clear hK K
        refine wq_do (by kernel_rfl) (fun K hK => ?_)
        go_simp
        refine hK _ ?_
        clear hK K
        refine wq_do (by kernel_rfl) (fun K hK => ?_)
        go_simp
        refine hK _ ?_
        clear hK K
        refine wq_do (by kernel_rfl) (fun K hK => ?_)
        go_simp
        apply Exists.intro
        refine ⟨fun a => ?_, hK _ ?_⟩
        · exact KR a.d a.os
        clear hK K
        refine wq_do (by kernel_rfl) (fun K hK => ?_)
        go_simp
        refine hK _ ?_
        clear hK K
        refine wq_do (by kernel_rfl) (fun K hK => ?_)
        go_simp
        apply Exists.intro
        refine ⟨fun a => ?_, hK _ ?_⟩
        · exact KF a.d a.os
        clear hK K
        refine wq_do (by kernel_rfl) (fun K hK => ?_)
        go_simp
        refine hK _ ?_
        clear hK K
        refine wq_do (by kernel_rfl) (fun K hK => ?_)
        go_simp
        refine hK _ ?_
        clear hK K
        refine wq_do (by kernel_rfl) (fun K hK => ?_)
        go_simp
        refine hK _ ?_
        clear hK K
        refine wq_do (by kernel_rfl) (fun K hK => ?_)
        go_simp
        apply Exists.intro
        refine ⟨fun a => ?_, hK _ ?_⟩
        · exact KW a.d a.os
        clear hK K
        refine wq_do (by kernel_rfl) (fun K hK => ?_)
        go_simp
        refine hK _ ?_
        clear hK K
        refine wq_do (by kernel_rfl) (fun K hK => ?_)
        go_simp
        refine hK _ ?_
        clear hK K
        refine wq_nil ?_
        intro _ hw'
        obtain ⟨⟨dq, osq⟩, hw''⟩ := hw'
        subst hw''
        have HZ := Lib.hid (HBd.out.trans ((below_regrown wd dq osq).mono HBd.out.size))
        clear KS KR KF KW d0 d1 d2 d3 d4 d5 d6 d7 d8 d9
        go_wp2_with fail
        go_ret
        exact ⟨rfl, HZ.out⟩
    · rw [if_neg hs] at hE
      subst hE
      have t0 : decide ((q2 : Int) + (n : Int) ≤ 65536) = false := decide_eq_false (by omega)
      rcases hx with ⟨es, A1, c1, hes, _, _⟩ | ⟨_, rfl⟩
      case inl => cases hes
      go_wp2_with fail
      refine (HR.out _).mono ?_
      rintro e w2 ⟨g2, c2, rfl, _, hb2⟩
      rw [HQ.out]
      have HB2 := Lib.hid (HB1.out.trans (hb2.mono HB1.out.size))
      clear hb2 HB1 HR HQ
      go_wp2_with fail
      have hbA : Below w2.heap.size w2 (w2.alloc (.cells #[.int .i64 6, .int .i64 0, .int .i64 0, .int .i64 0, .int .i64 0, .int .i64 0, .slice none 0 0, .slice none 0 0, .slice none 0 0, .slice none 0 0] 38)) := (Below.refl _ _).alloc (Nat.le_refl _) _
      have HBa := Lib.hid (HB2.out.trans (hbA.mono HB2.out.size))
      have HMa := Lib.hid (Blk.new w2 38 #[.int .i64 6, .int .i64 0, .int .i64 0, .int .i64 0, .int .i64 0, .int .i64 0, .slice none 0 0, .slice none 0 0, .slice none 0 0, .slice none 0 0])
      obtain ⟨wa, hwa⟩ : ∃ wa, (w2.alloc (.cells #[.int .i64 6, .int .i64 0, .int .i64 0, .int .i64 0, .int .i64 0, .int .i64 0, .slice none 0 0, .slice none 0 0, .slice none 0 0, .slice none 0 0] 38)) = wa := ⟨_, rfl⟩
      obtain ⟨ga, hga⟩ : ∃ g, w2.heap.size = g := ⟨_, rfl⟩
      rw [hwa] at HBa HMa ⊢
      rw [hga] at HMa ⊢
      clear hbA hwa hga
      refine (rbody_msg msC wa (msC_in _ _) (by decide)).mono ?_
      rintro e wb ⟨hbB, ⟨bs, Xb, cb, hbs, rfl, ho⟩ | ⟨hbs, rfl⟩⟩
      case inr => rw [show msC.m = mC from rfl, mC_body] at hbs; cases hbs
      rw [show msC.m = mC from rfl, mC_body] at hbs
      have hbs : bsC = bs := by injection hbs
      subst hbs
      have HBb := Lib.hid (HBa.out.trans (hbB.mono HBa.out.size))
      have HMb := Lib.hid (HMa.out.below hbB HMa.out.lt)
      have HOb := Lib.hid (Has.own ho)
      have hnb := gr_none ho
      clear hbB ho HBa HMa
      go_wp2_with fail
      refine (envelope_any (m : Int) (zs := bsC) (n := 10) rfl (by decide) _ HOb.out hnb).mono ?_
      rintro e wc ⟨hbC, hc⟩
      have HBc := Lib.hid (HBb.out.trans (hbC.mono HBb.out.size))
      have HMc := Lib.hid (HMb.out.below hbC HMb.out.lt)
      have HOc := Lib.hid ((HOb.out.below hbC (Nat.le_refl _)).more hbC.size)
      clear hbC HBb HMb HOb
      obtain ⟨an2, han2⟩ : ∃ an, envS (m : Int) bsC = an := ⟨_, rfl⟩
      have KE := Lib.hid (renvelope_any (m : Int) (zs := bsC) (n := 10) (c := cb) (A := Xb) rfl (by decide) wc HOc.out hnb)
      rw [han2] at hc KE
      have HLen := Lib.hid (fun es (h : an2 = some es) => envS_len (han2.trans h))
      clear han2 HOc hnb
      rcases hc with ⟨es, Xc, cc, hes, rfl, hoc⟩ | ⟨hes, rfl⟩
      · subst hes
        have HXc := Lib.hid (Has.own hoc)
        clear hoc
        go_wp2_with fail
        refine KE.out.mono ?_
        rintro e wd ⟨hbD, ⟨fs, Xd, cd, hfs, rfl, hod⟩ | ⟨hfs, rfl⟩⟩
        case inr => cases hfs
        have hfe : es = fs := by injection hfs
        subst hfe
        have HBd := Lib.hid (HBc.out.trans (hbD.mono HBc.out.size))
        have HMd := Lib.hid (HMc.out.below hbD HMc.out.lt)
        have HXd := Lib.hid ((HXc.out.below hbD (Nat.le_refl _)).more hbD.size)
        have HYd := Lib.hid (Has.own hod)
        have hsz : es.length ≤ 9223372036854775806 := by have := HLen.out es rfl; omega
        obtain ⟨el, hel⟩ : ∃ el, es.length = el := ⟨_, rfl⟩
        have HEl := Lib.hid hel
        rw [hel] at hsz ⊢
        have KS0 := Lib.hid (fun w' (hw : Below wd.heap.size wd w') => (same_is (A := Xc) (A' := Xd) (c := cc) (c' := cd) HEl.out HEl.out hsz (r := true) (by unfold sameB; exact decide_eq_true rfl) w' (HXd.out.below hw (Nat.le_refl _)) (HYd.out.below hw (Nat.le_refl _))).mono (R' := fun e w2 => e = .returned (.bool true) ∧ Below w'.heap.size w' w2) (fun e w2 h => ⟨h.1, by obtain ⟨m, rfl⟩ := h.2; exact below_drewN (Below.refl _ _) m⟩))
        clear hod hel
        clear hbD hfs HBc HMc KE
        go_wp2_with fail
        have KS := fun d os => Calls.regrown_of (KS0.out (grow (redrawn wd d) os) (below_regrown wd d os))
        have KR := fun d os => Calls.regrown_of (rmC_form (grow (redrawn wd d) os))
        have KF := fun d os => Calls.regrown_of (mC_form (grow (redrawn wd d) os))
        have KW := fun d os => Calls.regrown_of (wakes6_any (grow (redrawn wd d) os))
        obtain ⟨d0, d1, d2, d3, d4, d5, d6, d7, d8, d9⟩ := blk_cells10 HMd.out
        clear KS0 HMd
        refine wp_region_quiet_below (by kernel_rfl) (by kernel_rfl) ?_
        refine wq_out ?_
        refine wq_do (by kernel_rfl) (fun K hK => ?_)
        go_simp
        refine hK _ ?_
        clear hK K
        refine wq_do (by kernel_rfl) (fun K hK => ?_)
        go_simp
        refine hK _ ?_
        clear hK K
        refine wq_do (by kernel_rfl) (fun K hK => ?_)
        go_simp
        refine hK _ ?_
        clear hK K
        refine wq_do (by kernel_rfl) (fun K hK => ?_)
        go_simp
        refine hK _ ?_
        clear hK K
        refine wq_do (by kernel_rfl) (fun K hK => ?_)
        go_simp
        refine hK _ ?_
        clear hK K
        refine wq_do (by kernel_rfl) (fun K hK => ?_)
        go_simp
        refine hK _ ?_
        clear hK K
        refine wq_do (by kernel_rfl) (fun K hK => ?_)
        go_simp
        apply Exists.intro
        refine ⟨fun a => ?_, hK _ ?_⟩
        · exact KS a.d a.os
        clear hK K
        refine wq_do (by kernel_rfl) (fun K hK => ?_)
        go_simp
        refine hK _ ?_
        clear hK K
        refine wq_do (by kernel_rfl) (fun K hK => ?_)
        go_simp
        refine hK _ ?_
        clear hK K
        refine wq_do (by kernel_rfl) (fun K hK => ?_)
        go_simp
        refine hK _ ?_
        clear hK K
        refine wq_do (by kernel_rfl) (fun K hK => ?_)
        go_simp
        apply Exists.intro
        refine ⟨fun a => ?_, hK _ ?_⟩
        · exact KR a.d a.os
        clear hK K
        refine wq_do (by kernel_rfl) (fun K hK => ?_)
        go_simp
        refine hK _ ?_
        clear hK K
        refine wq_do (by kernel_rfl) (fun K hK => ?_)
        go_simp
        apply Exists.intro
        refine ⟨fun a => ?_, hK _ ?_⟩
        · exact KF a.d a.os
        clear hK K
        refine wq_do (by kernel_rfl) (fun K hK => ?_)
        go_simp
        refine hK _ ?_
        clear hK K
        refine wq_do (by kernel_rfl) (fun K hK => ?_)
        go_simp
        refine hK _ ?_
        clear hK K
        refine wq_do (by kernel_rfl) (fun K hK => ?_)
        go_simp
        refine hK _ ?_
        clear hK K
        refine wq_do (by kernel_rfl) (fun K hK => ?_)
        go_simp
        apply Exists.intro
        refine ⟨fun a => ?_, hK _ ?_⟩
        · exact KW a.d a.os
        clear hK K
        refine wq_do (by kernel_rfl) (fun K hK => ?_)
        go_simp
        refine hK _ ?_
        clear hK K
        refine wq_do (by kernel_rfl) (fun K hK => ?_)
        go_simp
        refine hK _ ?_
        clear hK K
        refine wq_nil ?_
        intro _ hw'
        obtain ⟨⟨dq, osq⟩, hw''⟩ := hw'
        subst hw''
        have HZ := Lib.hid (HBd.out.trans ((below_regrown wd dq osq).mono HBd.out.size))
        clear KS KR KF KW d0 d1 d2 d3 d4 d5 d6 d7 d8 d9
        go_wp2_with fail
        go_ret
        exact ⟨rfl, HZ.out⟩
      · subst hes
        go_wp2_with fail
        refine KE.out.mono ?_
        rintro e wd ⟨hbD, ⟨fs, Xd, cd, hfs, rfl, hod⟩ | ⟨hfs, rfl⟩⟩
        case inl => cases hfs
        have HBd := Lib.hid (HBc.out.trans (hbD.mono HBc.out.size))
        have HMd := Lib.hid (HMc.out.below hbD HMc.out.lt)
        have KS0 := Lib.hid (fun w' (hw : Below wd.heap.size wd w') => (same_is (A := none) (A' := none) (c := 0) (c' := 0) (zs := []) (ys := []) rfl rfl (by decide) (r := true) (by decide) w' (Has.nil _ 0 _) (Has.nil _ _ _)).mono (R' := fun e w2 => e = .returned (.bool true) ∧ Below w'.heap.size w' w2) (fun e w2 h => ⟨h.1, by obtain ⟨m, rfl⟩ := h.2; exact below_drewN (Below.refl _ _) m⟩))
        clear hbD hfs HBc HMc KE
        go_wp2_with fail
        have KS := fun d os => Calls.regrown_of (KS0.out (grow (redrawn wd d) os) (below_regrown wd d os))
        have KR := fun d os => Calls.regrown_of (rmC_form (grow (redrawn wd d) os))
        have KF := fun d os => Calls.regrown_of (mC_form (grow (redrawn wd d) os))
        have KW := fun d os => Calls.regrown_of (wakes6_any (grow (redrawn wd d) os))
        obtain ⟨d0, d1, d2, d3, d4, d5, d6, d7, d8, d9⟩ := blk_cells10 HMd.out
        clear KS0 HMd
        refine wp_region_quiet_below (by kernel_rfl) (by kernel_rfl) ?_
        refine wq_out ?_
        refine wq_do (by kernel_rfl) (fun K hK => ?_)
        go_simp
        refine hK _ ?_
        clear hK K
        refine wq_do (by kernel_rfl) (fun K hK => ?_)
        go_simp
        refine hK _ ?_
        clear hK K
        refine wq_do (by kernel_rfl) (fun K hK => ?_)
        go_simp
        refine hK _ ?_
        clear hK K
        refine wq_do (by kernel_rfl) (fun K hK => ?_)
        go_simp
        refine hK _ ?_
        clear hK K
        refine wq_do (by kernel_rfl) (fun K hK => ?_)
        go_simp
        refine hK _ ?_
        clear hK K
        refine wq_do (by kernel_rfl) (fun K hK => ?_)
        go_simp
        refine hK _ ?_
        clear hK K
        refine wq_do (by kernel_rfl) (fun K hK => ?_)
        go_simp
        apply Exists.intro
        refine ⟨fun a => ?_, hK _ ?_⟩
        · exact KS a.d a.os
        clear hK K
        refine wq_do (by kernel_rfl) (fun K hK => ?_)
        go_simp
        refine hK _ ?_
        clear hK K
        refine wq_do (by kernel_rfl) (fun K hK => ?_)
        go_simp
        refine hK _ ?_
        clear hK K
        refine wq_do (by kernel_rfl) (fun K hK => ?_)
        go_simp
        refine hK _ ?_
        clear hK K
        refine wq_do (by kernel_rfl) (fun K hK => ?_)
        go_simp
        apply Exists.intro
        refine ⟨fun a => ?_, hK _ ?_⟩
        · exact KR a.d a.os
        clear hK K
        refine wq_do (by kernel_rfl) (fun K hK => ?_)
        go_simp
        refine hK _ ?_
        clear hK K
        refine wq_do (by kernel_rfl) (fun K hK => ?_)
        go_simp
        apply Exists.intro
        refine ⟨fun a => ?_, hK _ ?_⟩
        · exact KF a.d a.os
        clear hK K
        refine wq_do (by kernel_rfl) (fun K hK => ?_)
        go_simp
        refine hK _ ?_
        clear hK K
        refine wq_do (by kernel_rfl) (fun K hK => ?_)
        go_simp
        refine hK _ ?_
        clear hK K
        refine wq_do (by kernel_rfl) (fun K hK => ?_)
        go_simp
        refine hK _ ?_
        clear hK K
        refine wq_do (by kernel_rfl) (fun K hK => ?_)
        go_simp
        apply Exists.intro
        refine ⟨fun a => ?_, hK _ ?_⟩
        · exact KW a.d a.os
        clear hK K
        refine wq_do (by kernel_rfl) (fun K hK => ?_)
        go_simp
        refine hK _ ?_
        clear hK K
        refine wq_do (by kernel_rfl) (fun K hK => ?_)
        go_simp
        refine hK _ ?_
        clear hK K
        refine wq_nil ?_
        intro _ hw'
        obtain ⟨⟨dq, osq⟩, hw''⟩ := hw'
        subst hw''
        have HZ := Lib.hid (HBd.out.trans ((below_regrown wd dq osq).mono HBd.out.size))
        clear KS KR KF KW d0 d1 d2 d3 d4 d5 d6 d7 d8 d9
        go_wp2_with fail
        go_ret
        exact ⟨rfl, HZ.out⟩
  case neg =>
    have hk' : k < 0 ∨ 1099511627776 ≤ k := by omega
    have HR := Lib.hid (fun w => refnumber_none k hk' w)
    rw [envS_out hk'] at hans
    subst hans
    clear hk hk'
    rcases hx with ⟨es, A1, c1, hes, _, _⟩ | ⟨_, rfl⟩
    case inl => cases hes
    go_wp2_with fail
    refine (HR.out _).mono ?_
    rintro e w2 ⟨rfl, rfl⟩
    clear HR
    go_wp2_with fail
    have hbA : Below w1.heap.size w1 (w1.alloc (.cells #[.int .i64 6, .int .i64 0, .int .i64 0, .int .i64 0, .int .i64 0, .int .i64 0, .slice none 0 0, .slice none 0 0, .slice none 0 0, .slice none 0 0] 38)) := (Below.refl _ _).alloc (Nat.le_refl _) _
    have HBa := Lib.hid (HB1.out.trans (hbA.mono HB1.out.size))
    have HMa := Lib.hid (Blk.new w1 38 #[.int .i64 6, .int .i64 0, .int .i64 0, .int .i64 0, .int .i64 0, .int .i64 0, .slice none 0 0, .slice none 0 0, .slice none 0 0, .slice none 0 0])
    obtain ⟨wa, hwa⟩ : ∃ wa, (w1.alloc (.cells #[.int .i64 6, .int .i64 0, .int .i64 0, .int .i64 0, .int .i64 0, .int .i64 0, .slice none 0 0, .slice none 0 0, .slice none 0 0, .slice none 0 0] 38)) = wa := ⟨_, rfl⟩
    obtain ⟨ga, hga⟩ : ∃ g, w1.heap.size = g := ⟨_, rfl⟩
    rw [hwa] at HBa HMa ⊢
    rw [hga] at HMa ⊢
    clear hbA hwa hga
    refine (rbody_msg msC wa (msC_in _ _) (by decide)).mono ?_
    rintro e wb ⟨hbB, ⟨bs, Xb, cb, hbs, rfl, ho⟩ | ⟨hbs, rfl⟩⟩
    case inr => rw [show msC.m = mC from rfl, mC_body] at hbs; cases hbs
    rw [show msC.m = mC from rfl, mC_body] at hbs
    have hbs : bsC = bs := by injection hbs
    subst hbs
    have HBb := Lib.hid (HBa.out.trans (hbB.mono HBa.out.size))
    have HMb := Lib.hid (HMa.out.below hbB HMa.out.lt)
    have HOb := Lib.hid (Has.own ho)
    have hnb := gr_none ho
    clear hbB ho HBa HMa
    go_wp2_with fail
    refine (envelope_any k (zs := bsC) (n := 10) rfl (by decide) _ HOb.out hnb).mono ?_
    rintro e wc ⟨hbC, hc⟩
    have HBc := Lib.hid (HBb.out.trans (hbC.mono HBb.out.size))
    have HMc := Lib.hid (HMb.out.below hbC HMb.out.lt)
    have HOc := Lib.hid ((HOb.out.below hbC (Nat.le_refl _)).more hbC.size)
    clear hbC HBb HMb HOb
    obtain ⟨an2, han2⟩ : ∃ an, envS k bsC = an := ⟨_, rfl⟩
    have KE := Lib.hid (renvelope_any k (zs := bsC) (n := 10) (c := cb) (A := Xb) rfl (by decide) wc HOc.out hnb)
    rw [han2] at hc KE
    have HLen := Lib.hid (fun es (h : an2 = some es) => envS_len (han2.trans h))
    clear han2 HOc hnb
    rcases hc with ⟨es, Xc, cc, hes, rfl, hoc⟩ | ⟨hes, rfl⟩
    · subst hes
      have HXc := Lib.hid (Has.own hoc)
      clear hoc
      go_wp2_with fail
      refine KE.out.mono ?_
      rintro e wd ⟨hbD, ⟨fs, Xd, cd, hfs, rfl, hod⟩ | ⟨hfs, rfl⟩⟩
      case inr => cases hfs
      have hfe : es = fs := by injection hfs
      subst hfe
      have HBd := Lib.hid (HBc.out.trans (hbD.mono HBc.out.size))
      have HMd := Lib.hid (HMc.out.below hbD HMc.out.lt)
      have HXd := Lib.hid ((HXc.out.below hbD (Nat.le_refl _)).more hbD.size)
      have HYd := Lib.hid (Has.own hod)
      have hsz : es.length ≤ 9223372036854775806 := by have := HLen.out es rfl; omega
      obtain ⟨el, hel⟩ : ∃ el, es.length = el := ⟨_, rfl⟩
      have HEl := Lib.hid hel
      rw [hel] at hsz ⊢
      have KS0 := Lib.hid (fun w' (hw : Below wd.heap.size wd w') => (same_is (A := Xc) (A' := Xd) (c := cc) (c' := cd) HEl.out HEl.out hsz (r := true) (by unfold sameB; exact decide_eq_true rfl) w' (HXd.out.below hw (Nat.le_refl _)) (HYd.out.below hw (Nat.le_refl _))).mono (R' := fun e w2 => e = .returned (.bool true) ∧ Below w'.heap.size w' w2) (fun e w2 h => ⟨h.1, by obtain ⟨m, rfl⟩ := h.2; exact below_drewN (Below.refl _ _) m⟩))
      clear hod hel
      clear hbD hfs HBc HMc KE
      go_wp2_with fail
      have KS := fun d os => Calls.regrown_of (KS0.out (grow (redrawn wd d) os) (below_regrown wd d os))
      have KR := fun d os => Calls.regrown_of (rmC_form (grow (redrawn wd d) os))
      have KF := fun d os => Calls.regrown_of (mC_form (grow (redrawn wd d) os))
      have KW := fun d os => Calls.regrown_of (wakes6_any (grow (redrawn wd d) os))
      obtain ⟨d0, d1, d2, d3, d4, d5, d6, d7, d8, d9⟩ := blk_cells10 HMd.out
      clear KS0 HMd
      refine wp_region_quiet_below (by kernel_rfl) (by kernel_rfl) ?_
      refine wq_out ?_
      refine wq_do (by kernel_rfl) (fun K hK => ?_)
      go_simp
      refine hK _ ?_
      clear hK K
      refine wq_do (by kernel_rfl) (fun K hK => ?_)
      go_simp
      refine hK _ ?_
      clear hK K
      refine wq_do (by kernel_rfl) (fun K hK => ?_)
      go_simp
      refine hK _ ?_
      clear hK K
      refine wq_do (by kernel_rfl) (fun K hK => ?_)
      go_simp
      refine hK _ ?_
      clear hK K
      refine wq_do (by kernel_rfl) (fun K hK => ?_)
      go_simp
      refine hK _ ?_
      clear hK K
      refine wq_do (by kernel_rfl) (fun K hK => ?_)
      go_simp
      refine hK _ ?_
      clear hK K
      refine wq_do (by kernel_rfl) (fun K hK => ?_)
      go_simp
      apply Exists.intro
      refine ⟨fun a => ?_, hK _ ?_⟩
      · exact KS a.d a.os
      clear hK K
      refine wq_do (by kernel_rfl) (fun K hK => ?_)
      go_simp
      refine hK _ ?_
      clear hK K
      refine wq_do (by kernel_rfl) (fun K hK => ?_)
      go_simp
      refine hK _ ?_
      clear hK K
      refine wq_do (by kernel_rfl) (fun K hK => ?_)
      go_simp
      refine hK _ ?_
      clear hK K
      refine wq_do (by kernel_rfl) (fun K hK => ?_)
      go_simp
      apply Exists.intro
      refine ⟨fun a => ?_, hK _ ?_⟩
      · exact KR a.d a.os
      clear hK K
      refine wq_do (by kernel_rfl) (fun K hK => ?_)
      go_simp
      refine hK _ ?_
      clear hK K
      refine wq_do (by kernel_rfl) (fun K hK => ?_)
      go_simp
      apply Exists.intro
      refine ⟨fun a => ?_, hK _ ?_⟩
      · exact KF a.d a.os
      clear hK K
      refine wq_do (by kernel_rfl) (fun K hK => ?_)
      go_simp
      refine hK _ ?_
      clear hK K
      refine wq_do (by kernel_rfl) (fun K hK => ?_)
      go_simp
      refine hK _ ?_
      clear hK K
      refine wq_do (by kernel_rfl) (fun K hK => ?_)
      go_simp
      refine hK _ ?_
      clear hK K
      refine wq_do (by kernel_rfl) (fun K hK => ?_)
      go_simp
      apply Exists.intro
      refine ⟨fun a => ?_, hK _ ?_⟩
      · exact KW a.d a.os
      clear hK K
      refine wq_do (by kernel_rfl) (fun K hK => ?_)
      go_simp
      refine hK _ ?_
      clear hK K
      refine wq_do (by kernel_rfl) (fun K hK => ?_)
      go_simp
      refine hK _ ?_
      clear hK K
      refine wq_nil ?_
      intro _ hw'
      obtain ⟨⟨dq, osq⟩, hw''⟩ := hw'
      subst hw''
      have HZ := Lib.hid (HBd.out.trans ((below_regrown wd dq osq).mono HBd.out.size))
      clear KS KR KF KW d0 d1 d2 d3 d4 d5 d6 d7 d8 d9
      go_wp2_with fail
      go_ret
      exact ⟨rfl, HZ.out⟩
    · subst hes
      go_wp2_with fail
      refine KE.out.mono ?_
      rintro e wd ⟨hbD, ⟨fs, Xd, cd, hfs, rfl, hod⟩ | ⟨hfs, rfl⟩⟩
      case inl => cases hfs
      have HBd := Lib.hid (HBc.out.trans (hbD.mono HBc.out.size))
      have HMd := Lib.hid (HMc.out.below hbD HMc.out.lt)
      have KS0 := Lib.hid (fun w' (hw : Below wd.heap.size wd w') => (same_is (A := none) (A' := none) (c := 0) (c' := 0) (zs := []) (ys := []) rfl rfl (by decide) (r := true) (by decide) w' (Has.nil _ 0 _) (Has.nil _ _ _)).mono (R' := fun e w2 => e = .returned (.bool true) ∧ Below w'.heap.size w' w2) (fun e w2 h => ⟨h.1, by obtain ⟨m, rfl⟩ := h.2; exact below_drewN (Below.refl _ _) m⟩))
      clear hbD hfs HBc HMc KE
      go_wp2_with fail
      have KS := fun d os => Calls.regrown_of (KS0.out (grow (redrawn wd d) os) (below_regrown wd d os))
      have KR := fun d os => Calls.regrown_of (rmC_form (grow (redrawn wd d) os))
      have KF := fun d os => Calls.regrown_of (mC_form (grow (redrawn wd d) os))
      have KW := fun d os => Calls.regrown_of (wakes6_any (grow (redrawn wd d) os))
      obtain ⟨d0, d1, d2, d3, d4, d5, d6, d7, d8, d9⟩ := blk_cells10 HMd.out
      clear KS0 HMd
      refine wp_region_quiet_below (by kernel_rfl) (by kernel_rfl) ?_
      refine wq_out ?_
      refine wq_do (by kernel_rfl) (fun K hK => ?_)
      go_simp
      refine hK _ ?_
      clear hK K
      refine wq_do (by kernel_rfl) (fun K hK => ?_)
      go_simp
      refine hK _ ?_
      clear hK K
      refine wq_do (by kernel_rfl) (fun K hK => ?_)
      go_simp
      refine hK _ ?_
      clear hK K
      refine wq_do (by kernel_rfl) (fun K hK => ?_)
      go_simp
      refine hK _ ?_
      clear hK K
      refine wq_do (by kernel_rfl) (fun K hK => ?_)
      go_simp
      refine hK _ ?_
      clear hK K
      refine wq_do (by kernel_rfl) (fun K hK => ?_)
      go_simp
      refine hK _ ?_
      clear hK K
      refine wq_do (by kernel_rfl) (fun K hK => ?_)
      go_simp
      apply Exists.intro
      refine ⟨fun a => ?_, hK _ ?_⟩
      · exact KS a.d a.os
      clear hK K
      refine wq_do (by kernel_rfl) (fun K hK => ?_)
      go_simp
      refine hK _ ?_
      clear hK K
      refine wq_do (by kernel_rfl) (fun K hK => ?_)
      go_simp
      refine hK _ ?_
      clear hK K
      refine wq_do (by kernel_rfl) (fun K hK => ?_)
      go_simp
      refine hK _ ?_
      clear hK K
      refine wq_do (by kernel_rfl) (fun K hK => ?_)
      go_simp
      apply Exists.intro
      refine ⟨fun a => ?_, hK _ ?_⟩
      · exact KR a.d a.os
      clear hK K
      refine wq_do (by kernel_rfl) (fun K hK => ?_)
      go_simp
      refine hK _ ?_
      clear hK K
      refine wq_do (by kernel_rfl) (fun K hK => ?_)
      go_simp
      apply Exists.intro
      refine ⟨fun a => ?_, hK _ ?_⟩
      · exact KF a.d a.os
      clear hK K
      refine wq_do (by kernel_rfl) (fun K hK => ?_)
      go_simp
      refine hK _ ?_
      clear hK K
      refine wq_do (by kernel_rfl) (fun K hK => ?_)
      go_simp
      refine hK _ ?_
      clear hK K
      refine wq_do (by kernel_rfl) (fun K hK => ?_)
      go_simp
      refine hK _ ?_
      clear hK K
      refine wq_do (by kernel_rfl) (fun K hK => ?_)
      go_simp
      apply Exists.intro
      refine ⟨fun a => ?_, hK _ ?_⟩
      · exact KW a.d a.os
      clear hK K
      refine wq_do (by kernel_rfl) (fun K hK => ?_)
      go_simp
      refine hK _ ?_
      clear hK K
      refine wq_do (by kernel_rfl) (fun K hK => ?_)
      go_simp
      refine hK _ ?_
      clear hK K
      refine wq_nil ?_
      intro _ hw'
      obtain ⟨⟨dq, osq⟩, hw''⟩ := hw'
      subst hw''
      have HZ := Lib.hid (HBd.out.trans ((below_regrown wd dq osq).mono HBd.out.size))
      clear KS KR KF KW d0 d1 d2 d3 d4 d5 d6 d7 d8 d9
      go_wp2_with fail
      go_ret
      exact ⟨rfl, HZ.out⟩
theorem msgsSizes_walk (k n0 : Int) (w : World) (_ : (Lit.int .i64 k).wf = true) (h : (Lit.int .i64 n0).wf = true) :
    Calls Tryz.prog 5 #[.int .i64 k, .int .i64 n0] w fun e w' => e = .returned (.bool true) ∧ Below w.heap.size w w' :=
  msgsSizes_any k n0 w (wf_i64 h).1 (wf_i64 h).2
end Go.Proofs.YtbebfgfpdcdcoaaGreat
