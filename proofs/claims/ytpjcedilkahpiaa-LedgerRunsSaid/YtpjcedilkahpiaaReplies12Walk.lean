/- The walk of LedgerReplies. -/
import Derived.Test.YtpjcedilkahpiaaOnce12Walk
import Derived.Test.YtpjcedilkahpiaaStoreSame
namespace Go.Proofs.Ytpjcedilkahpiaa
open Go.RowKit
set_option linter.unusedSimpArgs false

theorem Sc.late_step {s : Sc} (h : Late s.2) (r : Rq) : Late (s.step r).2 := by
  cases hs : s.is r
  · rw [Sc.step_no hs]; exact h
  · rw [Sc.step_yes hs]; exact h.put _ _ _
theorem Sc.late_run : ∀ (b : List Rq) {s : Sc}, Late s.2 → Late (s.run b).2
  | [], _, h => h
  | r :: b, _, h => Sc.late_run b (Sc.late_step h r)
theorem Sc.upto_all (s : Sc) (b : List Rq) : s.upto b (s.ran b).length = s.run b := by
  unfold Sc.upto
  rw [List.take_of_length_le (by rw [List.length_map]; exact Nat.le_refl _)]
  exact (Sc.again b s).1
/-- Where a client's last entry stands among the first ones. -/
def LastAt (n : Nat) (Q : List Rq) (c : Int) (i : Nat) (z : Int) : Prop :=
  (z = -1 ∧ atL ((Sc.new n).upto Q i).2 c = (0, 0)) ∨ ∃ (k : Nat) (e : En), k < i ∧ z = (k : Int) ∧ ((Sc.new n).ran Q)[k]? = some e ∧ 0 < e.r.tm ∧ atL ((Sc.new n).upto Q i).2 c = (e.r.tm, e.x)
theorem LastAt.start (n : Nat) (Q : List Rq) (c : Int) : LastAt n Q c 0 (-1) := Or.inl ⟨rfl, by rw [show (Sc.new n).upto Q 0 = Sc.new n from rfl]; exact atL_new n c⟩
theorem LastAt.next {n : Nat} {Q : List Rq} {c : Int} {i : Nat} {z : Int} (h : LastAt n Q c i z) (hi : i < ((Sc.new n).ran Q).length) : LastAt n Q c (i + 1) (if ((Sc.new n).ran Q)[i].r.cl = c then (i : Int) else z) := by
  have hat := Sc.done_at (Sc.upto_is (s := Sc.new n) hi) c
  have hlate : Late ((Sc.new n).upto Q i).2 := Sc.late_run _ (late_new n)
  have hx := (Sc.entry Q (Sc.new n) (List.getElem?_eq_getElem hi)).2
  have his := (Sc.is_true (Sc.upto_is (s := Sc.new n) hi)).2
  by_cases hc : ((Sc.new n).ran Q)[i].r.cl = c
  · rw [if_pos hc]
    refine Or.inr ⟨i, ((Sc.new n).ran Q)[i], Nat.lt_succ_self _, rfl, List.getElem?_eq_getElem hi, ?_, ?_⟩
    · have := hlate ((Sc.new n).ran Q)[i].r.cl
      omega
    · rw [Sc.upto_next hi, hat, if_pos hc.symm, hx]
      rfl
  · rw [if_neg hc]
    have hsame : atL ((Sc.new n).upto Q (i + 1)).2 c = atL ((Sc.new n).upto Q i).2 c := by rw [Sc.upto_next hi, hat, if_neg (fun e => hc e.symm)]
    rcases h with ⟨h1, h2⟩ | ⟨k, e, h1, h2, h3, h4, h5⟩
    · exact Or.inl ⟨h1, hsame.trans h2⟩
    · exact Or.inr ⟨k, e, by omega, h2, h3, h4, hsame.trans h5⟩
theorem getS_none {L : List (Int × Int)} {c : Int} : getS L c 0 = (0, false) := by unfold getS; rw [if_neg (fun e => by omega)]
theorem getS_last {L : List (Int × Int)} {c t x : Int} (h : atL L c = (t, x)) (ht : 0 < t) : getS L c t = (x, true) := by unfold getS; rw [h, if_pos ⟨ht, rfl⟩]
theorem getS_other {L : List (Int × Int)} {c t x u : Int} (h : atL L c = (t, x)) (hu : u ≠ t) : getS L c u = (0, false) := by unfold getS; rw [h, if_neg (fun e => hu e.2)]
theorem wrap_prev (x : Int) : ∃ y, IntKind.i64.wrap (x - 1) = y ∧ wrap64 (x - 1) = y ∧ y ≠ x := by
  refine ⟨wrap64 (x - 1), IntWalk.i64_left _, rfl, ?_⟩
  unfold wrap64
  omega
set_option maxRecDepth 100000 in
set_option maxHeartbeats 8000000 in
theorem ledgerReplies_walk (a : Int) (A : Option Addr) (c : Nat) (l : List Bt) (w : World) (w0 : (Lit.int .i64 a).wf = true) (w1 : IsBats w A l c) :
    Calls Try.prog 3 #[.int .i64 a, .slice A l.length c] w fun e w' => e = .returned (.bool true) ∧ Below w.heap.size w w' := by
  obtain ⟨n, hn1, hn4, hW, hwr, hw6⟩ := clients_of w0
  have HW := Lib.hid hW
  have HC := Lib.hid (cutfold hn1 hn4 w1 w (Below.refl _ _))
  have HN4 := Lib.hid (And.intro hn1 hn4)
  have HNl := Lib.hid (allS_cut_len l)
  obtain ⟨Q, hQ⟩ : ∃ Q, allS (cutS l) = Q := ⟨_, rfl⟩
  obtain ⟨p, hp⟩ : ∃ p, (cutS l).length = p := ⟨_, rfl⟩
  rw [hQ, hp] at HC
  rw [hQ] at HNl
  clear w0 w1 hW hQ hp hn1 hn4
  go_enter Try.func3, Try.ntmps3
  go_wp2_with fail
  refine (HW.out _).mono ?_
  rintro e wv ⟨rfl, rfl⟩
  go_wp2_with fail
  refine HC.out.mono ?_
  rintro e w2 ⟨A1, c1, rfl, _, hb, hF⟩
  have HB := Lib.hid hb
  have HF := Lib.hid hF
  clear hb hF HC
  go_wp2_with fail
  refine HF.out.mono ?_
  rintro e w3 ⟨bx, rfl, hl, hbN⟩
  have HL3 := Lib.hid (hl.base HB.out)
  have HBN := Lib.hid hbN
  have HA := Lib.hid (lall_any HL3.out.lg (by have := HBN.out; omega))
  have hEl : ((Sc.new n).ran Q).length ≤ 160 := Nat.le_trans (Sc.ran_len _ _) HNl.out
  obtain ⟨ee, hee⟩ : ∃ e, ((Sc.new n).ran Q).length = e := ⟨_, rfl⟩
  rw [hee] at HA hEl
  have HEe := Lib.hid hee
  obtain ⟨lx, hlx⟩ : ∃ x, bx.lb = x := ⟨_, rfl⟩
  have HLx := Lib.hid hlx
  rw [hlx] at HA ⊢
  clear hl hbN HF hee hlx
  go_wp2_with fail
  refine HA.out.mono ?_
  rintro e w5 ⟨v, rfl, ho, hb5⟩
  obtain ⟨A5, c5, rfl, -, -⟩ := own_slice ho
  have HX5 := Lib.hid (HL3.out.below hb5)
  have HE5 := Lib.hid (has_rows ho)
  clear ho hb5 HA HL3
  go_wp2_with fail
  go_loopw [8] (fun x wr => ∃ (q j : Nat), x = .int .i64 q ∧ q ≤ n ∧ wr = w5.drewN j) (fun x _ => n - (intOf x).toNat)
  case atStart => exact ⟨0, 0, rfl, Nat.zero_le _, rfl⟩
  case round =>
    obtain ⟨q, j, rfl, hq, rfl⟩ := hrel
    have hq4 : q ≤ 4 := by have := HN4.out; omega
    by_cases hqn : q < n
    · have HLs := Lib.hid (LastAt.start n Q (q : Int))
      go_wp2_with fail
      go_loopw [9, 44] (fun z x wr => ∃ (i : Nat) (zz : Int), x = .int .i64 i ∧ z = .int .i64 zz ∧ i ≤ ee ∧ Hid (LastAt n Q q i zz) ∧ wr = w5.drewN j) (fun _ x _ => ee - (intOf x).toNat)
      case atStart => exact ⟨0, -1, rfl, rfl, Nat.zero_le _, HLs, rfl⟩
      case round =>
        obtain ⟨i, zz, rfl, rfl, hi, HLa, rfl⟩ := hrel
        by_cases hie : i < ee
        · have hil : i < ((Sc.new n).ran Q).length := by rw [HEe.out]; exact hie
          obtain ⟨ad, rfl, _, c0, -⟩ := HE5.out.ent hil
          have HNx := Lib.hid (HLa.out.next hil)
          obtain ⟨y, hy⟩ : ∃ y, ((Sc.new n).ran Q)[i].r.cl = y := ⟨_, rfl⟩
          rw [hy] at c0 HNx
          clear hy
          by_cases hyq : y = (q : Int)
          · have g1 : (y == (q : Int)) = true := by simp [hyq]
            rw [if_pos hyq] at HNx
            clear hyq
            go_wp2_with fail
            go_roundw
            case rel => exact ⟨i + 1, (i : Int), by go_num, rfl, by omega, HNx, by first | rfl | trivial⟩
            case measure => simp [intOf]; omega
          · have g1 : (y == (q : Int)) = false := by simp [hyq]
            rw [if_neg hyq] at HNx
            clear hyq
            go_wp2_with fail
            go_roundw
            case rel => exact ⟨i + 1, zz, by go_num, rfl, by omega, HNx, by first | rfl | trivial⟩
            case measure => simp [intOf]; omega
        · obtain rfl : i = ee := by omega
          have hla := HLa.out
          unfold LastAt at hla
          rw [← HEe.out, Sc.upto_all] at hla
          have KL := Lib.hid (fun m => llast_any (HX5.out.drewN m).lg (q : Int))
          have KR := Lib.hid (fun m t => lreply_any (HX5.out.drewN m).lg (q : Int) t)
          rw [HLx.out] at KL KR
          rcases hla with ⟨rfl, hat⟩ | ⟨k, e, hk, rfl, he, htm, hat⟩
          · rw [hat] at KL
            have hg := getS_none (L := ((Sc.new n).run Q).2) (c := (q : Int))
            have KR0 := Lib.hid (fun m => KR.out m 0)
            rw [hg] at KR0
            clear hat hg KR
            go_wp2_with fail
            refine (KL.out j).mono ?_
            rintro e wv ⟨rfl, rfl⟩
            go_wp2_with fail
            refine (KR0.out j).mono ?_
            rintro e wv ⟨rfl, rfl⟩
            go_wp2_with fail
            refine (KL.out j).mono ?_
            rintro e wv ⟨rfl, rfl⟩
            go_wp2_with fail
            go_roundw
            case rel => exact ⟨q + 1, j, by go_num, by omega, rfl⟩
            case measure => simp [intOf]; omega
          · obtain ⟨hkl, hke⟩ := List.getElem?_eq_some_iff.1 he
            obtain ⟨ad, rfl, _, -, d1, -, -, -, -, d6⟩ := HE5.out.ent hkl
            rw [hke] at d1 d6
            have hg := getS_last hat htm
            obtain ⟨y, hy1, hy2, hy3⟩ := wrap_prev e.r.tm
            have hg2 := getS_other hat hy3
            rw [hat] at KL
            have KR1 := Lib.hid (fun m => KR.out m e.r.tm)
            have KR2 := Lib.hid (fun m => KR.out m y)
            rw [hg] at KR1
            rw [hg2] at KR2
            have hki : k < i := by rw [HEe.out] at hkl; exact hkl
            obtain ⟨t, ht⟩ : ∃ t, e.r.tm = t := ⟨_, rfl⟩
            obtain ⟨x, hx⟩ : ∃ t, e.x = t := ⟨_, rfl⟩
            rw [ht] at KL KR1 d1 hy1 hy2
            rw [hx] at KR1 d6
            have g1 : (t != t) = false := by simp
            have g2 : (x != x) = false := by simp
            clear hat hg hg2 KR hke ht hx hy3 htm he
            go_wp2_with fail
            refine (KL.out j).mono ?_
            rintro e wv ⟨rfl, rfl⟩
            go_wp2_with fail
            refine (KR1.out j).mono ?_
            rintro e wv ⟨rfl, rfl⟩
            go_wp2_with fail
            have g5 : decide ((i : Int) ≤ (k : Int)) = false := decide_eq_false (by omega)
            go_big_quiet ((go_at_call 17; exact (KL.out _).mono (fun e w' he => ⟨he.1, _, he.2.symm⟩)))
            rw [World.drewN_drewN]
            go_wp2_with fail
            refine (KL.out _).mono ?_
            rintro e wv ⟨rfl, rfl⟩
            go_wp2_with fail
            refine (KR2.out _).mono ?_
            rintro e wv ⟨rfl, rfl⟩
            go_wp2_with fail
            go_roundw
            case rel => exact ⟨q + 1, _, by go_num, by omega, rfl⟩
            case measure => simp [intOf]; omega
    · obtain rfl : q = n := by omega
      have KN := Lib.hid (lx_new HN4.out.1 HN4.out.2 (w5.drewN j) (w5.drewN j) (Below.refl _ _))
      have HX6 := Lib.hid (HX5.out.drewN j)
      have HE6 := Lib.hid (HE5.out.drewN j)
      obtain ⟨w6, hw6'⟩ : ∃ w6, w5.drewN j = w6 := ⟨_, rfl⟩
      rw [hw6'] at KN HX6 HE6 ⊢
      have HE6 := Lib.hid HE6.out.tight
      clear hw6' HX5 HE5
      go_wp2_with fail
      refine KN.out.mono ?_
      rintro e w7 ⟨by0, rfl, hy, hyN, -, -⟩
      obtain ⟨ly, hly⟩ : ∃ x, by0.lb = x := ⟨_, rfl⟩
      have HS0 := Lib.hid (show Lx w6 by0 ((Sc.new q).upto Q 0) (((Sc.new q).ran Q).take 0) w7 ∧ by0.N = 0 ∧ by0.lb = ly from ⟨hy, hyN, hly⟩)
      rw [hly]
      clear hy hyN hly KN
      go_wp2_with fail
      go_loopw [126] (fun x wr => ∃ (i : Nat) (b : Lb), x = .int .i64 i ∧ i ≤ ee ∧ Hid (Lx w6 b ((Sc.new q).upto Q i) (((Sc.new q).ran Q).take i) wr ∧ b.N = i ∧ b.lb = ly)) (fun x _ => ee - (intOf x).toNat)
      case atStart => exact ⟨0, by0, rfl, Nat.zero_le _, HS0⟩
      case round =>
        obtain ⟨i, b, rfl, hi, HS⟩ := hrel
        obtain ⟨hy, hyN, hyb⟩ := HS.out
        by_cases hie : i < ee
        · have hil : i < ((Sc.new q).ran Q).length := by rw [HEe.out]; exact hie
          have hEr := HE6.out.below hy.low (Nat.le_refl _)
          obtain ⟨ad, rfl, hab, c0, c1', c2, c3, c4, c5', c6⟩ := hEr.ent hil
          obtain ⟨x, hx⟩ : ∃ x, ((Sc.new q).ran Q)[i] = x := ⟨_, rfl⟩
          rw [hx] at c0 c1' c2 c3 c4 c5' c6
          obtain ⟨r, hr⟩ : ∃ r, x.r = r := ⟨_, rfl⟩
          rw [hr] at c0 c1' c2 c3 c4 c5'
          have hb8 : Below wr.heap.size wr (wr.alloc (.cells #[.int .i64 r.cl, .int .i64 r.tm, .int .i64 r.kd, .int .i64 r.ky, .int .i64 r.vl, .int .i64 r.sg] 34)) := (Below.refl _ _).alloc (Nat.le_refl _) _
          have hnw : Has (wr.alloc (.cells #[.int .i64 r.cl, .int .i64 r.tm, .int .i64 r.kd, .int .i64 r.ky, .int .i64 r.vl, .int .i64 r.sg] 34)) (wr.heap.size + 1) (some ⟨wr.heap.size, 0, none⟩) (reqCells [r]) := Has.fresh wr _ _
          have hlt : ∀ k, b.zone k → k < wr.heap.size := fun k hk => hy.lg.lt hk
          have his := Sc.upto_is (s := Sc.new q) hil
          have hnx := Sc.upto_next (s := Sc.new q) hil
          have hres := (Sc.entry Q (Sc.new q) (List.getElem?_eq_getElem hil)).2
          rw [hx, hr] at his hnx hres
          have hran : ((Sc.new q).upto Q i).ran [r] = [x] := by
            show ((Sc.new q).upto Q i).ents r ++ [] = _
            rw [Sc.ents_yes his, List.append_nil]
            have : ((Sc.new q).upto Q i).res r = x.x := hres.symm
            rw [this, ← hr]
          have hrun : ((Sc.new q).upto Q i).run [r] = (Sc.new q).upto Q (i + 1) := by
            show ((Sc.new q).upto Q i).step r = _
            rw [Sc.step_yes his, hnx]
          have KR := Lib.hid (lx_run (hy.below hb8) (c := 1) (n := 1) hnw (fun ad e _ hz => by cases e; have := hlt _ hz; exact absurd this (Nat.lt_irrefl _)) rfl (by omega))
          rw [hyb] at KR
          have HRan := Lib.hid hran
          have HRun := Lib.hid hrun
          have HTk := Lib.hid (list_more hil)
          rw [hx] at HTk
          have HYb := Lib.hid hyb
          have HYn := Lib.hid hyN
          have HOff := Lib.hid (show ¬ b.zone ad.block from fun hz => by have := hy.up _ hz; omega)
          have HCl := Lib.hid (hEr.below hb8 (by have := hy.low.size; omega))
          clear hEr hab hb8 hnw hlt his hnx hres hran hrun hyb hyN hy
          go_wp2_with fail
          refine KR.out.mono ?_
          rintro e w9 ⟨v, b', rfl, hR⟩
          obtain ⟨A9, c9, rfl, -, -⟩ := own_slice hR.row
          have hrow := has_rows hR.row
          have hlx := hR.lx
          have hn := hR.n
          have hsm := hR.same
          have hEr := has_apart HCl.out hR.tn (fun ad2 e _ hz => by cases e; exact HOff.out hz)
          rw [HRan.out] at hrow hlx hn ⊢
          rw [HRun.out, ← HTk.out] at hlx
          have hx0 : ([x] : List En)[0]'(by simp) = x := rfl
          obtain ⟨ad9, e9, -, d0, d1, d2, d3, d4, d5, d6⟩ := hrow.ent (k := 0) (by simp)
          obtain rfl : A9 = some ad9 := e9
          rw [Nat.zero_mul] at d0 d1 d2 d3 d4 d5 d6
          rw [hx0] at d0 d1 d2 d3 d4 d5 d6
          have hz9 : ad9.add 0 = ad9 := by unfold Addr.add; simp
          rw [hz9] at d0 d1 d2 d3 d4 d5 d6
          obtain ⟨ad', e, -, c0, c1', c2, c3, c4, c5', c6⟩ := hEr.ent hil
          cases e
          rw [hx] at c0 c1' c2 c3 c4 c5' c6
          have HS9 := Lib.hid (show Lx w6 b' ((Sc.new q).upto Q (i + 1)) (((Sc.new q).ran Q).take (i + 1)) w9 ∧ b'.N = i + 1 ∧ b'.lb = ly from ⟨hlx, by rw [hn, HYn.out]; rfl, hsm.trans HYb.out⟩)
          have G := fun (w : World) => guard_ent .neq (.tmp 143) (.tmp 147) #[.int .i64 x.r.cl, .int .i64 x.r.tm, .int .i64 x.r.kd, .int .i64 x.r.ky, .int .i64 x.r.vl, .int .i64 x.r.sg, .int .i64 x.x] #[.int .i64 x.r.cl, .int .i64 x.r.tm, .int .i64 x.r.kd, .int .i64 x.r.ky, .int .i64 x.r.vl, .int .i64 x.r.sg, .int .i64 x.x] w
          have E1 := fun (w : World) => neq_ent (x := x) (y := x) (r := false) (by simp) w
          clear hrow hlx hn hsm hR KR hEr hz9 hx0 hx hr
          rw [show ([x] : List En).length = 1 from rfl]
          go_wp2_with fail
          go_big_quiet (fail)
          clear E1 G
          go_wp2_with fail
          go_roundw
          case rel => exact ⟨i + 1, b', by go_num, by omega, Lib.hid ⟨HS9.out.1.drewN _, HS9.out.2⟩⟩
          case measure => simp [intOf]; omega
        · obtain rfl : i = ee := by omega
          rw [← HEe.out, Sc.upto_all, List.take_of_length_le (Nat.le_refl _)] at hy
          have HX7 := Lib.hid (HX6.out.below hy.low)
          have KS := Lib.hid (lsame_yes hy.lg HX7.out.lg (by omega))
          have HYl := Lib.hid hy.lg
          rw [hyb, HLx.out] at KS
          have HYb := Lib.hid hyb
          clear hy hyN hyb HS HS0
          go_wp2_with fail
          refine KS.out.mono ?_
          rintro e w10 ⟨rfl, hb10⟩
          have HX10 := Lib.hid (HX7.out.below hb10)
          have HY10 := Lib.hid (HYl.out.below hb10)
          have K1 := Lib.hid (lstore_any HX10.out.lg)
          rw [HLx.out] at K1
          clear hb10 KS HX7 HYl
          go_wp2_with fail
          refine K1.out.mono ?_
          rintro e w11 ⟨sb, bm, rfl, hst, -, -, hb11⟩
          have HX11 := Lib.hid (HX10.out.below hb11)
          have HSt := Lib.hid hst
          have K2 := Lib.hid (lstore_any (HY10.out.below hb11))
          rw [HYb.out] at K2
          clear hst hb11 K1 HX10 HY10
          go_wp2_with fail
          refine K2.out.mono ?_
          rintro e w12 ⟨sb2, bm2, rfl, hst2, -, -, hb12⟩
          have HX12 := Lib.hid (HX11.out.below hb12)
          have K3 := Lib.hid (ssame_any (HSt.out.below hb12) hst2)
          clear hst2 hb12 K2 HX11 HSt
          go_wp2_with fail
          refine K3.out.mono ?_
          rintro e w13 ⟨ok, rfl, hok, hb13⟩
          obtain rfl : ok = true := hok.2 (by first | rfl | trivial)
          have HX13 := Lib.hid (HX12.out.below hb13)
          clear hok hb13 K3 HX12
          go_wp2_with fail
          refine (wakes12_any _).mono ?_
          rintro e w14 ⟨rfl, hb14⟩
          go_wp2_with fail
          go_ret
          exact ⟨rfl, HX13.out.low.trans (hb14.mono HX13.out.low.size)⟩
end Go.Proofs.Ytpjcedilkahpiaa
