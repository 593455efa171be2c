/- The walk of CachePlays: it returns true for any int and any two lists of acts. -/
import Derived.Test.YtibpleemclokiaaDo11
import Derived.Test.YtibpleemclokiaaWq
namespace Go.Proofs.Ytibpleemclokiaa
open Go.RowKit Go.Maps Go.Sort
set_option linter.unusedSimpArgs false
set_option linter.unusedVariables false

/-- Two caches, each with its plain one. -/
structure Jd (w : World) (cb g c pb : Nat) (L : List (Int × Int)) (db g' c' qb : Nat) (M : List (Int × Int)) (wr : World) : Prop where
  a : Jc w cb g c pb L wr
  b : Jc w db g' c' qb M wr
  len : M.length = L.length
  n1 : cb ≠ g' ∧ g ≠ g' ∧ pb ≠ g'
  n2 : cb ≠ qb ∧ g ≠ qb ∧ pb ≠ qb
section
variable {w wr wz : World} {cb g c pb db g' c' qb : Nat} {L M M' : List (Int × Int)}
theorem Jc.kept {Z : Nat → Prop} (h : Jc w cb g c pb L wr) (ht : Turn Z wr wz) (h1 : ¬ Z cb) (h2 : ¬ Z g) (h3 : ¬ Z pb) (hl : Below w.heap.size wr wz) : Jc w cb g c pb L wz :=
  ⟨⟨h.r.ch.kept ht h1 h2, h.r.lc, h.r.lg, h.r.late, h.r.low.trans hl⟩, ht.blk h.p h3, h.lp, h.n1, h.n2⟩
theorem Jd.next (h : Jd w cb g c pb L db g' c' qb M wr) (hb : Jc w db g' c' qb M' wz) (hl : M'.length = M.length) (ht : Turn (fun j => j = g' ∨ j = qb) wr wz) : Jd w cb g c pb L db g' c' qb M' wz :=
  ⟨h.a.kept ht (fun e => e.elim h.n1.1 h.n2.1) (fun e => e.elim h.n1.2.1 h.n2.2.1) (fun e => e.elim h.n1.2.2 h.n2.2.2)
    (ht.below h.a.r.low.size (fun k hk e => by have := h.b.r.lg; have := h.b.lp; omega)), hb, hl.trans h.len, h.n1, h.n2⟩
theorem Jd.below (h : Jd w cb g c pb L db g' c' qb M wr) (hb : Below wr.heap.size wr wz) : Jd w cb g c pb L db g' c' qb M wz := ⟨h.a.below hb, h.b.below hb, h.len, h.n1, h.n2⟩
end
set_option maxRecDepth 100000 in
set_option maxHeartbeats 8000000 in
theorem cachePlays_walk (a0 : Int) (A1 : Option Addr) (c1 : Nat) (l1 : List Ac) (A2 : Option Addr) (c2 : Nat) (l2 : List Ac) (w : World) (w0 : (Lit.int .i64 a0).wf = true) (w1 : IsActs w A1 l1 c1) (w2 : IsActs w A2 l2 c2) :
    Calls Try.prog 4 #[.int .i64 a0, .slice A1 l1.length c1, .slice A2 l2.length c2] w fun e w' => e = .returned (.bool true) ∧ Below w.heap.size w w' := by
  have HA1 := Lib.hid w1.has
  have HF1 := Lib.hid w1.came
  have HA2 := Lib.hid w2.has
  have HF2 := Lib.hid w2.came
  obtain ⟨n1, hn1⟩ : ∃ n, l1.length = n := ⟨_, rfl⟩
  obtain ⟨n2, hn2⟩ : ∃ n, l2.length = n := ⟨_, rfl⟩
  have HM1 := Lib.hid (show n1 ≤ maxLen by rw [← hn1]; exact Nat.le_trans w1.le w1.most)
  have HM2 := Lib.hid (show n2 ≤ maxLen by rw [← hn2]; exact Nat.le_trans w2.le w2.most)
  rw [hn1, hn2]
  have HN1 := Lib.hid hn1
  have HN2 := Lib.hid hn2
  clear w0 w1 w2 hn1 hn2
  by_cases hin : 1 ≤ a0 ∧ a0 ≤ 4
  · obtain ⟨n, rfl⟩ := Int.eq_ofNat_of_zero_le (show 0 ≤ a0 by omega)
    obtain ⟨hi1, hi4⟩ : 1 ≤ n ∧ n ≤ 4 := by omega
    have g1 : decide ((n : Int) < 1) = false := decide_eq_false (by omega)
    have g2 : decide ((4 : Int) < n) = false := decide_eq_false (by omega)
    have HP0 := Lib.hid (plC_new hi1 hi4)
    have HI := Lib.hid (show 1 ≤ n ∧ n ≤ 4 from ⟨hi1, hi4⟩)
    clear hin
    go_enter Try.func4, Try.ntmps4
    go_wp2_with fail
    refine (rc_new HI.out.1 HI.out.2 w w (Below.refl _ _)).mono ?_
    rintro e w1 ⟨cb, g, c, rfl, hC, -, -, -⟩
    have HC := Lib.hid hC
    clear hC hi1 hi4
    go_wp2_with fail
    have HJ := Lib.hid (show Jc w cb g c w1.heap.size (List.replicate n (0, 0)) (w1.alloc (.cells #[.int .i64 n, .int .i64 0, .int .i64 0, .int .i64 0, .int .i64 0, .int .i64 0, .int .i64 0, .int .i64 0, .int .i64 0] 39)) from by
      have hb : Below w1.heap.size w1 (w1.alloc (.cells #[.int .i64 n, .int .i64 0, .int .i64 0, .int .i64 0, .int .i64 0, .int .i64 0, .int .i64 0, .int .i64 0, .int .i64 0] 39)) := (Below.refl _ _).alloc (Nat.le_refl _) _
      have hl := HC.out.ch.lt
      refine ⟨HC.out.below hb, ?_, HC.out.low.size, by omega, by omega⟩
      unfold Pl
      rw [HP0.out]
      exact Blk.new _ _ _)
    obtain ⟨pb, hpb⟩ : ∃ pb, w1.heap.size = pb := ⟨_, rfl⟩
    obtain ⟨w2, hw2⟩ : ∃ w2, w1.alloc (.cells #[.int .i64 n, .int .i64 0, .int .i64 0, .int .i64 0, .int .i64 0, .int .i64 0, .int .i64 0, .int .i64 0, .int .i64 0] 39) = w2 := ⟨_, rfl⟩
    rw [hpb, hw2] at HJ
    rw [hpb, hw2]
    clear hpb hw2 HC g1 g2
    go_loopw [10] (fun x wr => ∃ (k : Nat) (L : List (Int × Int)), x = .int .i64 k ∧ k ≤ n1 ∧ k ≤ 100 ∧ Hid (L.length = n) ∧ Hid (Jc w cb g c pb L wr)) (fun x _ => n1 - (intOf x).toNat)
    case atStart => exact ⟨0, _, rfl, Nat.zero_le _, Nat.zero_le _, Lib.hid List.length_replicate, HJ⟩
    case round =>
      obtain ⟨k, L, rfl, hk, hk2, HL, HJ⟩ := hrel
      by_cases hlt : k < n1 ∧ k < 100
      · obtain ⟨hlt1, hlt2⟩ := hlt
        obtain ⟨ad, rfl, hab, h0, h1, h2, h3⟩ := act_at (HJ.out.r.has HA1.out) (show k < l1.length by rw [HN1.out]; exact hlt1)
        obtain ⟨⟨dd, cl, tm, rs⟩, hx⟩ : ∃ x, l1[k]'(by rw [HN1.out]; exact hlt1) = x := ⟨_, rfl⟩
        have HFx := Lib.hid (show Ac.Came w ⟨dd, cl, tm, rs⟩ from hx ▸ HF1.out _ (List.getElem_mem _))
        rw [hx] at h0 h1 h2 h3
        simp only at h0 h1 h2 h3
        clear hx hab
        have HD := Lib.hid (do_any HJ.out (k := cl) (tm := tm) (rs := rs) HFx.out.dd)
        go_wp2_with fail
        refine HD.out.mono ?_
        rintro e w3 ⟨rfl, L', hj, hl, -⟩
        have HJ3 := Lib.hid hj
        have HL3 := Lib.hid (hl.trans HL.out)
        clear hj hl h0 h1 h2 h3
        go_wp2_with fail
        go_roundw
        case rel => exact ⟨k + 1, L', by go_num, by omega, by omega, HL3, HJ3⟩
        case measure => simp [intOf]; omega
      · have hend : (decide ((k : Int) < (n1 : Int)) && decide ((k : Int) < 100)) = false := by simp; omega
        by_cases hk1 : k < n1
        · go_wp2_with fail
          refine (cclone_any HJ.out.r.ch).mono ?_
          rintro e w3 ⟨db, g', c', rfl, hd, q1, q2, hb3⟩
          have HC3 := Lib.hid (HJ.out.below hb3)
          have HD3 := Lib.hid (show Rc w db g' c' L w3 from ⟨hd, Nat.le_trans HJ.out.r.low.size q1, Nat.le_trans HJ.out.r.low.size q2, HJ.out.r.late, HC3.out.r.low⟩)
          have HO := Lib.hid (show (cb ≠ g' ∧ g ≠ g' ∧ pb ≠ g') ∧ db < w3.heap.size ∧ g' < w3.heap.size ∧ cb < w3.heap.size ∧ g < w3.heap.size ∧ pb < w3.heap.size from by
            have p1 := HJ.out.p.lt
            have p2 := HJ.out.r.ch.lt
            have p3 := hd.lt
            have p4 := hb3.size
            omega)
          clear hd q1 q2 hb3
          have HS := Lib.hid (csame_any HC3.out.r.ch HD3.out.ch)
          rw [show sameL L L = true from decide_eq_true rfl] at HS
          go_wp2_with fail
          refine HS.out.mono ?_
          rintro e w4 ⟨rfl, nq, rfl⟩
          have HC4 := Lib.hid (HC3.out.drewN nq)
          have HD4 := Lib.hid (HD3.out.drewN nq)
          have HO4 := Lib.hid (show (cb ≠ g' ∧ g ≠ g' ∧ pb ≠ g') ∧ db < (w3.drewN nq).heap.size ∧ g' < (w3.drewN nq).heap.size ∧ cb < (w3.drewN nq).heap.size ∧ g < (w3.drewN nq).heap.size ∧ pb < (w3.drewN nq).heap.size from HO.out)
          obtain ⟨w4, hw4⟩ : ∃ w4, w3.drewN nq = w4 := ⟨_, rfl⟩
          rw [hw4] at HC4 HD4 HO4 ⊢
          clear hw4 HC3 HD3 HO HS HJ
          obtain ⟨v0, v1, v2, v3, v4, v5, v6, v7, v8, hC⟩ : ∃ v0 v1 v2 v3 v4 v5 v6 v7 v8 : Int, plC L = #[.int .i64 v0, .int .i64 v1, .int .i64 v2, .int .i64 v3, .int .i64 v4, .int .i64 v5, .int .i64 v6, .int .i64 v7, .int .i64 v8] := ⟨_, _, _, _, _, _, _, _, _, rfl⟩
          have HCc := Lib.hid hC
          have hbp : Blk w4 pb 39 #[.int .i64 v0, .int .i64 v1, .int .i64 v2, .int .i64 v3, .int .i64 v4, .int .i64 v5, .int .i64 v6, .int .i64 v7, .int .i64 v8] := hC ▸ HC4.out.p
          have e0 := hbp.cell 0
          have e1 := hbp.cell 1
          have e2 := hbp.cell 2
          have e3 := hbp.cell 3
          have e4 := hbp.cell 4
          have e5 := hbp.cell 5
          have e6 := hbp.cell 6
          have e7 := hbp.cell 7
          have e8 := hbp.cell 8
          simp only [List.getElem?_toArray, List.getElem?_cons_zero, List.getElem?_cons_succ] at e0 e1 e2 e3 e4 e5 e6 e7 e8
          have hst := pstore_cells w4 L []
          have hsz := plC_size L
          rw [plC_nil, hC] at hst
          rw [hC] at hsz
          clear hC hbp
          go_wp2_with fail
          have HQ := Lib.hid (show Jd w cb g c pb L db g' c' w4.heap.size L (w4.alloc (.cells #[.int .i64 v0, .int .i64 v1, .int .i64 v2, .int .i64 v3, .int .i64 v4, .int .i64 v5, .int .i64 v6, .int .i64 v7, .int .i64 v8] 39)) from by
            have hb : Below w4.heap.size w4 (w4.alloc (.cells #[.int .i64 v0, .int .i64 v1, .int .i64 v2, .int .i64 v3, .int .i64 v4, .int .i64 v5, .int .i64 v6, .int .i64 v7, .int .i64 v8] 39)) := (Below.refl _ _).alloc (Nat.le_refl _) _
            have ho := HO4.out
            refine ⟨HC4.out.below hb, ⟨HD4.out.below hb, ?_, HD4.out.low.size, by omega, by omega⟩, rfl, ho.1, by omega, by omega, by omega⟩
            unfold Pl
            rw [HCc.out]
            exact Blk.new _ _ _)
          obtain ⟨qb, hqb⟩ : ∃ qb, w4.heap.size = qb := ⟨_, rfl⟩
          obtain ⟨w5, hw5⟩ : ∃ w5, w4.alloc (.cells #[.int .i64 v0, .int .i64 v1, .int .i64 v2, .int .i64 v3, .int .i64 v4, .int .i64 v5, .int .i64 v6, .int .i64 v7, .int .i64 v8] 39) = w5 := ⟨_, rfl⟩
          rw [hqb, hw5] at HQ
          rw [hqb, hw5]
          clear hqb hw5 hst hsz HCc HC4 HD4 HO4
          go_loopw [13] (fun x wr => ∃ (k : Nat) (M : List (Int × Int)), x = .int .i64 k ∧ k ≤ n2 ∧ k ≤ 60 ∧ Hid (Jd w cb g c pb L db g' c' qb M wr)) (fun x _ => n2 - (intOf x).toNat)
          case atStart => exact ⟨0, _, rfl, Nat.zero_le _, Nat.zero_le _, HQ⟩
          case round =>
            obtain ⟨j, M, rfl, hj, hj2, HJ⟩ := hrel
            by_cases hjt : j < n2 ∧ j < 60
            · obtain ⟨hjt1, hjt2⟩ := hjt
              obtain ⟨ad, rfl, hab, h0, h1, h2, h3⟩ := act_at (HJ.out.a.r.has HA2.out) (show j < l2.length by rw [HN2.out]; exact hjt1)
              obtain ⟨⟨dd, cl, tm, rs⟩, hx⟩ : ∃ x, l2[j]'(by rw [HN2.out]; exact hjt1) = x := ⟨_, rfl⟩
              have HFx := Lib.hid (show Ac.Came w ⟨dd, cl, tm, rs⟩ from hx ▸ HF2.out _ (List.getElem_mem _))
              rw [hx] at h0 h1 h2 h3
              simp only at h0 h1 h2 h3
              clear hx hab
              have HD := Lib.hid (do_any HJ.out.b (k := cl) (tm := tm) (rs := rs) HFx.out.dd)
              go_wp2_with fail
              refine HD.out.mono ?_
              rintro e w6 ⟨rfl, M', hjj, hl, ht⟩
              have HJ6 := Lib.hid (HJ.out.next hjj hl ht)
              clear hjj hl ht h0 h1 h2 h3
              go_wp2_with fail
              go_roundw
              case rel => exact ⟨j + 1, M', by go_num, by omega, by omega, HJ6⟩
              case measure => simp [intOf]; omega
            · have hend2 : (decide ((j : Int) < (n2 : Int)) && decide ((j : Int) < 60)) = false := by simp; omega
              have KC := Lib.hid (fun d os => HJ.out.below (below_regrown wr d os))
              obtain ⟨b, hb⟩ : ∃ b, sameL L M = b := ⟨_, rfl⟩
              have hb' : sameL M L = b := by
                rw [← hb]
                unfold sameL
                rw [Bool.eq_iff_iff, decide_eq_true_iff, decide_eq_true_iff]
                exact ⟨fun h => h.symm, fun h => h.symm⟩
              have heq := pequal HJ.out.a.r.ch.l4 HJ.out.len.symm
              obtain ⟨C1, hC1⟩ : ∃ C, plC L = C := ⟨_, rfl⟩
              obtain ⟨C2, hC2⟩ : ∃ C, plC M = C := ⟨_, rfl⟩
              rw [hC1, hC2, hb] at heq
              have HLow := Lib.hid HJ.out.a.r.low
              have KS := fun d os => Calls.regrown_of (v := .bool b) ((csame_any (KC.out d os).a.r.ch (KC.out d os).b.r.ch).mono fun e w' ⟨he, m, hw⟩ => ⟨by rw [he, hb], by rw [hw]; exact ⟨rfl, rfl, rfl, Nat.le_refl _, fun _ _ => rfl⟩⟩)
              have KT := fun d os => Calls.regrown_of (v := .bool b) ((csame_any (KC.out d os).b.r.ch (KC.out d os).a.r.ch).mono fun e w' ⟨he, m, hw⟩ => ⟨by rw [he, hb'], by rw [hw]; exact ⟨rfl, rfl, rfl, Nat.le_refl _, fun _ _ => rfl⟩⟩)
              have KW := fun d os => Calls.regrown_of (wakes11_any (grow (redrawn wr d) os))
              have L1 : ∀ w', (∃ p : Regrown, w' = grow (redrawn wr p.d) p.os) → (loadVar 39 ⟨pb, 0, none⟩).run Try.prog w' = .ok (.agg C1) w' := fun w' ⟨p, hp⟩ => by
                subst hp
                exact hC1 ▸ pload (KC.out p.d p.os).a.p
              have L2 : ∀ w', (∃ p : Regrown, w' = grow (redrawn wr p.d) p.os) → (loadVar 39 ⟨qb, 0, none⟩).run Try.prog w' = .ok (.agg C2) w' := fun w' ⟨p, hp⟩ => by
                subst hp
                exact hC2 ▸ pload (KC.out p.d p.os).b.p
              have HL1 := Lib.hid L1
              have HL2 := Lib.hid L2
              have hbb : (b == b) = true := by simp
              have G1 := fun (w : World) => run_eqGuard_agg (P := Try.prog) w .eql 39 (.tmp 96) (.tmp 97) C1 C2 (by kernel_rfl)
              have G2 := fun (w : World) => run_eqGuard_agg (P := Try.prog) w .eql 39 (.tmp 106) (.tmp 107) C1 C2 (by kernel_rfl)
              clear hC1 hC2 hb hb' L1 L2
              by_cases hj1 : j < n2
              · go_wp2_with fail
                refine wp_region_quiet_below (by kernel_rfl) (by kernel_rfl) ?_
                refine wq_out ?_
                refine wq_do (by kernel_rfl) (fun K hK => ?_)
                go_simp
                refine hK _ ?_
                clear hK K
                refine wq_do (by kernel_rfl) (fun K hK => ?_)
                go_simp
                refine hK _ ?_
                clear hK K
                refine wq_do (by kernel_rfl) (fun K hK => ?_)
                go_simp
                apply Exists.intro
                refine ⟨fun a => ?_, hK _ ?_⟩
                · exact KS a.d a.os
                clear hK K
                refine wq_do (by kernel_rfl) (fun K hK => ?_)
                go_simp
                refine hK _ ?_
                clear hK K
                refine wq_do (by kernel_rfl) (fun K hK => ?_)
                go_simp
                refine hK _ ?_
                clear hK K
                refine wq_do (by kernel_rfl) (fun K hK => ?_)
                refine quiet_load_whole _ _ rfl pb C1 rfl HL1.out ?_
                refine hK _ ?_
                clear hK K
                go_frame
                refine wq_do (by kernel_rfl) (fun K hK => ?_)
                refine quiet_load_whole _ _ rfl qb C2 rfl HL2.out ?_
                refine hK _ ?_
                clear hK K
                go_frame
                refine wq_do (by kernel_rfl) (fun K hK => ?_)
                go_simp
                refine hK _ ?_
                clear hK K
                refine wq_do (by kernel_rfl) (fun K hK => ?_)
                go_simp
                refine hK _ ?_
                clear hK K
                refine wq_do (by kernel_rfl) (fun K hK => ?_)
                go_simp
                refine hK _ ?_
                clear hK K
                refine wq_do (by kernel_rfl) (fun K hK => ?_)
                go_simp
                refine hK _ ?_
                clear hK K
                refine wq_do (by kernel_rfl) (fun K hK => ?_)
                go_simp
                refine hK _ ?_
                clear hK K
                refine wq_do (by kernel_rfl) (fun K hK => ?_)
                go_simp
                apply Exists.intro
                refine ⟨fun a => ?_, hK _ ?_⟩
                · exact KT a.d a.os
                clear hK K
                refine wq_do (by kernel_rfl) (fun K hK => ?_)
                go_simp
                refine hK _ ?_
                clear hK K
                refine wq_do (by kernel_rfl) (fun K hK => ?_)
                go_simp
                refine hK _ ?_
                clear hK K
                refine wq_do (by kernel_rfl) (fun K hK => ?_)
                refine quiet_load_whole _ _ rfl pb C1 rfl HL1.out ?_
                refine hK _ ?_
                clear hK K
                go_frame
                refine wq_do (by kernel_rfl) (fun K hK => ?_)
                refine quiet_load_whole _ _ rfl qb C2 rfl HL2.out ?_
                refine hK _ ?_
                clear hK K
                go_frame
                refine wq_do (by kernel_rfl) (fun K hK => ?_)
                go_simp
                refine hK _ ?_
                clear hK K
                refine wq_do (by kernel_rfl) (fun K hK => ?_)
                go_simp
                refine hK _ ?_
                clear hK K
                refine wq_do (by kernel_rfl) (fun K hK => ?_)
                go_simp
                refine hK _ ?_
                clear hK K
                refine wq_do (by kernel_rfl) (fun K hK => ?_)
                go_simp
                refine hK _ ?_
                clear hK K
                refine wq_do (by kernel_rfl) (fun K hK => ?_)
                go_simp
                apply Exists.intro
                refine ⟨fun a => ?_, hK _ ?_⟩
                · exact KW a.d a.os
                clear hK K
                refine wq_do (by kernel_rfl) (fun K hK => ?_)
                go_simp
                refine hK _ ?_
                clear hK K
                refine wq_do (by kernel_rfl) (fun K hK => ?_)
                go_simp
                refine hK _ ?_
                clear hK K
                refine wq_nil ?_
                intro _ hw'
                obtain ⟨⟨dq, osq⟩, hw''⟩ := hw'
                subst hw''
                have HZ := Lib.hid (HLow.out.trans ((below_regrown wr dq osq).mono HLow.out.size))
                clear KS KT KW HL1 HL2
                go_wp2_with fail
                go_ret
                exact ⟨rfl, HZ.out⟩
              · go_wp2_with fail
                refine wp_region_quiet_below (by kernel_rfl) (by kernel_rfl) ?_
                refine wq_out ?_
                refine wq_do (by kernel_rfl) (fun K hK => ?_)
                go_simp
                refine hK _ ?_
                clear hK K
                refine wq_do (by kernel_rfl) (fun K hK => ?_)
                go_simp
                refine hK _ ?_
                clear hK K
                refine wq_do (by kernel_rfl) (fun K hK => ?_)
                go_simp
                apply Exists.intro
                refine ⟨fun a => ?_, hK _ ?_⟩
                · exact KS a.d a.os
                clear hK K
                refine wq_do (by kernel_rfl) (fun K hK => ?_)
                go_simp
                refine hK _ ?_
                clear hK K
                refine wq_do (by kernel_rfl) (fun K hK => ?_)
                go_simp
                refine hK _ ?_
                clear hK K
                refine wq_do (by kernel_rfl) (fun K hK => ?_)
                refine quiet_load_whole _ _ rfl pb C1 rfl HL1.out ?_
                refine hK _ ?_
                clear hK K
                go_frame
                refine wq_do (by kernel_rfl) (fun K hK => ?_)
                refine quiet_load_whole _ _ rfl qb C2 rfl HL2.out ?_
                refine hK _ ?_
                clear hK K
                go_frame
                refine wq_do (by kernel_rfl) (fun K hK => ?_)
                go_simp
                refine hK _ ?_
                clear hK K
                refine wq_do (by kernel_rfl) (fun K hK => ?_)
                go_simp
                refine hK _ ?_
                clear hK K
                refine wq_do (by kernel_rfl) (fun K hK => ?_)
                go_simp
                refine hK _ ?_
                clear hK K
                refine wq_do (by kernel_rfl) (fun K hK => ?_)
                go_simp
                refine hK _ ?_
                clear hK K
                refine wq_do (by kernel_rfl) (fun K hK => ?_)
                go_simp
                refine hK _ ?_
                clear hK K
                refine wq_do (by kernel_rfl) (fun K hK => ?_)
                go_simp
                apply Exists.intro
                refine ⟨fun a => ?_, hK _ ?_⟩
                · exact KT a.d a.os
                clear hK K
                refine wq_do (by kernel_rfl) (fun K hK => ?_)
                go_simp
                refine hK _ ?_
                clear hK K
                refine wq_do (by kernel_rfl) (fun K hK => ?_)
                go_simp
                refine hK _ ?_
                clear hK K
                refine wq_do (by kernel_rfl) (fun K hK => ?_)
                refine quiet_load_whole _ _ rfl pb C1 rfl HL1.out ?_
                refine hK _ ?_
                clear hK K
                go_frame
                refine wq_do (by kernel_rfl) (fun K hK => ?_)
                refine quiet_load_whole _ _ rfl qb C2 rfl HL2.out ?_
                refine hK _ ?_
                clear hK K
                go_frame
                refine wq_do (by kernel_rfl) (fun K hK => ?_)
                go_simp
                refine hK _ ?_
                clear hK K
                refine wq_do (by kernel_rfl) (fun K hK => ?_)
                go_simp
                refine hK _ ?_
                clear hK K
                refine wq_do (by kernel_rfl) (fun K hK => ?_)
                go_simp
                refine hK _ ?_
                clear hK K
                refine wq_do (by kernel_rfl) (fun K hK => ?_)
                go_simp
                refine hK _ ?_
                clear hK K
                refine wq_do (by kernel_rfl) (fun K hK => ?_)
                go_simp
                apply Exists.intro
                refine ⟨fun a => ?_, hK _ ?_⟩
                · exact KW a.d a.os
                clear hK K
                refine wq_do (by kernel_rfl) (fun K hK => ?_)
                go_simp
                refine hK _ ?_
                clear hK K
                refine wq_do (by kernel_rfl) (fun K hK => ?_)
                go_simp
                refine hK _ ?_
                clear hK K
                refine wq_nil ?_
                intro _ hw'
                obtain ⟨⟨dq, osq⟩, hw''⟩ := hw'
                subst hw''
                have HZ := Lib.hid (HLow.out.trans ((below_regrown wr dq osq).mono HLow.out.size))
                clear KS KT KW HL1 HL2
                go_wp2_with fail
                go_ret
                exact ⟨rfl, HZ.out⟩
        · go_wp2_with fail
          refine (cclone_any HJ.out.r.ch).mono ?_
          rintro e w3 ⟨db, g', c', rfl, hd, q1, q2, hb3⟩
          have HC3 := Lib.hid (HJ.out.below hb3)
          have HD3 := Lib.hid (show Rc w db g' c' L w3 from ⟨hd, Nat.le_trans HJ.out.r.low.size q1, Nat.le_trans HJ.out.r.low.size q2, HJ.out.r.late, HC3.out.r.low⟩)
          have HO := Lib.hid (show (cb ≠ g' ∧ g ≠ g' ∧ pb ≠ g') ∧ db < w3.heap.size ∧ g' < w3.heap.size ∧ cb < w3.heap.size ∧ g < w3.heap.size ∧ pb < w3.heap.size from by
            have p1 := HJ.out.p.lt
            have p2 := HJ.out.r.ch.lt
            have p3 := hd.lt
            have p4 := hb3.size
            omega)
          clear hd q1 q2 hb3
          have HS := Lib.hid (csame_any HC3.out.r.ch HD3.out.ch)
          rw [show sameL L L = true from decide_eq_true rfl] at HS
          go_wp2_with fail
          refine HS.out.mono ?_
          rintro e w4 ⟨rfl, nq, rfl⟩
          have HC4 := Lib.hid (HC3.out.drewN nq)
          have HD4 := Lib.hid (HD3.out.drewN nq)
          have HO4 := Lib.hid (show (cb ≠ g' ∧ g ≠ g' ∧ pb ≠ g') ∧ db < (w3.drewN nq).heap.size ∧ g' < (w3.drewN nq).heap.size ∧ cb < (w3.drewN nq).heap.size ∧ g < (w3.drewN nq).heap.size ∧ pb < (w3.drewN nq).heap.size from HO.out)
          obtain ⟨w4, hw4⟩ : ∃ w4, w3.drewN nq = w4 := ⟨_, rfl⟩
          rw [hw4] at HC4 HD4 HO4 ⊢
          clear hw4 HC3 HD3 HO HS HJ
          obtain ⟨v0, v1, v2, v3, v4, v5, v6, v7, v8, hC⟩ : ∃ v0 v1 v2 v3 v4 v5 v6 v7 v8 : Int, plC L = #[.int .i64 v0, .int .i64 v1, .int .i64 v2, .int .i64 v3, .int .i64 v4, .int .i64 v5, .int .i64 v6, .int .i64 v7, .int .i64 v8] := ⟨_, _, _, _, _, _, _, _, _, rfl⟩
          have HCc := Lib.hid hC
          have hbp : Blk w4 pb 39 #[.int .i64 v0, .int .i64 v1, .int .i64 v2, .int .i64 v3, .int .i64 v4, .int .i64 v5, .int .i64 v6, .int .i64 v7, .int .i64 v8] := hC ▸ HC4.out.p
          have e0 := hbp.cell 0
          have e1 := hbp.cell 1
          have e2 := hbp.cell 2
          have e3 := hbp.cell 3
          have e4 := hbp.cell 4
          have e5 := hbp.cell 5
          have e6 := hbp.cell 6
          have e7 := hbp.cell 7
          have e8 := hbp.cell 8
          simp only [List.getElem?_toArray, List.getElem?_cons_zero, List.getElem?_cons_succ] at e0 e1 e2 e3 e4 e5 e6 e7 e8
          have hst := pstore_cells w4 L []
          have hsz := plC_size L
          rw [plC_nil, hC] at hst
          rw [hC] at hsz
          clear hC hbp
          go_wp2_with fail
          have HQ := Lib.hid (show Jd w cb g c pb L db g' c' w4.heap.size L (w4.alloc (.cells #[.int .i64 v0, .int .i64 v1, .int .i64 v2, .int .i64 v3, .int .i64 v4, .int .i64 v5, .int .i64 v6, .int .i64 v7, .int .i64 v8] 39)) from by
            have hb : Below w4.heap.size w4 (w4.alloc (.cells #[.int .i64 v0, .int .i64 v1, .int .i64 v2, .int .i64 v3, .int .i64 v4, .int .i64 v5, .int .i64 v6, .int .i64 v7, .int .i64 v8] 39)) := (Below.refl _ _).alloc (Nat.le_refl _) _
            have ho := HO4.out
            refine ⟨HC4.out.below hb, ⟨HD4.out.below hb, ?_, HD4.out.low.size, by omega, by omega⟩, rfl, ho.1, by omega, by omega, by omega⟩
            unfold Pl
            rw [HCc.out]
            exact Blk.new _ _ _)
          obtain ⟨qb, hqb⟩ : ∃ qb, w4.heap.size = qb := ⟨_, rfl⟩
          obtain ⟨w5, hw5⟩ : ∃ w5, w4.alloc (.cells #[.int .i64 v0, .int .i64 v1, .int .i64 v2, .int .i64 v3, .int .i64 v4, .int .i64 v5, .int .i64 v6, .int .i64 v7, .int .i64 v8] 39) = w5 := ⟨_, rfl⟩
          rw [hqb, hw5] at HQ
          rw [hqb, hw5]
          clear hqb hw5 hst hsz HCc HC4 HD4 HO4
          go_loopw [13] (fun x wr => ∃ (k : Nat) (M : List (Int × Int)), x = .int .i64 k ∧ k ≤ n2 ∧ k ≤ 60 ∧ Hid (Jd w cb g c pb L db g' c' qb M wr)) (fun x _ => n2 - (intOf x).toNat)
          case atStart => exact ⟨0, _, rfl, Nat.zero_le _, Nat.zero_le _, HQ⟩
          case round =>
            obtain ⟨j, M, rfl, hj, hj2, HJ⟩ := hrel
            by_cases hjt : j < n2 ∧ j < 60
            · obtain ⟨hjt1, hjt2⟩ := hjt
              obtain ⟨ad, rfl, hab, h0, h1, h2, h3⟩ := act_at (HJ.out.a.r.has HA2.out) (show j < l2.length by rw [HN2.out]; exact hjt1)
              obtain ⟨⟨dd, cl, tm, rs⟩, hx⟩ : ∃ x, l2[j]'(by rw [HN2.out]; exact hjt1) = x := ⟨_, rfl⟩
              have HFx := Lib.hid (show Ac.Came w ⟨dd, cl, tm, rs⟩ from hx ▸ HF2.out _ (List.getElem_mem _))
              rw [hx] at h0 h1 h2 h3
              simp only at h0 h1 h2 h3
              clear hx hab
              have HD := Lib.hid (do_any HJ.out.b (k := cl) (tm := tm) (rs := rs) HFx.out.dd)
              go_wp2_with fail
              refine HD.out.mono ?_
              rintro e w6 ⟨rfl, M', hjj, hl, ht⟩
              have HJ6 := Lib.hid (HJ.out.next hjj hl ht)
              clear hjj hl ht h0 h1 h2 h3
              go_wp2_with fail
              go_roundw
              case rel => exact ⟨j + 1, M', by go_num, by omega, by omega, HJ6⟩
              case measure => simp [intOf]; omega
            · have hend2 : (decide ((j : Int) < (n2 : Int)) && decide ((j : Int) < 60)) = false := by simp; omega
              have KC := Lib.hid (fun d os => HJ.out.below (below_regrown wr d os))
              obtain ⟨b, hb⟩ : ∃ b, sameL L M = b := ⟨_, rfl⟩
              have hb' : sameL M L = b := by
                rw [← hb]
                unfold sameL
                rw [Bool.eq_iff_iff, decide_eq_true_iff, decide_eq_true_iff]
                exact ⟨fun h => h.symm, fun h => h.symm⟩
              have heq := pequal HJ.out.a.r.ch.l4 HJ.out.len.symm
              obtain ⟨C1, hC1⟩ : ∃ C, plC L = C := ⟨_, rfl⟩
              obtain ⟨C2, hC2⟩ : ∃ C, plC M = C := ⟨_, rfl⟩
              rw [hC1, hC2, hb] at heq
              have HLow := Lib.hid HJ.out.a.r.low
              have KS := fun d os => Calls.regrown_of (v := .bool b) ((csame_any (KC.out d os).a.r.ch (KC.out d os).b.r.ch).mono fun e w' ⟨he, m, hw⟩ => ⟨by rw [he, hb], by rw [hw]; exact ⟨rfl, rfl, rfl, Nat.le_refl _, fun _ _ => rfl⟩⟩)
              have KT := fun d os => Calls.regrown_of (v := .bool b) ((csame_any (KC.out d os).b.r.ch (KC.out d os).a.r.ch).mono fun e w' ⟨he, m, hw⟩ => ⟨by rw [he, hb'], by rw [hw]; exact ⟨rfl, rfl, rfl, Nat.le_refl _, fun _ _ => rfl⟩⟩)
              have KW := fun d os => Calls.regrown_of (wakes11_any (grow (redrawn wr d) os))
              have L1 : ∀ w', (∃ p : Regrown, w' = grow (redrawn wr p.d) p.os) → (loadVar 39 ⟨pb, 0, none⟩).run Try.prog w' = .ok (.agg C1) w' := fun w' ⟨p, hp⟩ => by
                subst hp
                exact hC1 ▸ pload (KC.out p.d p.os).a.p
              have L2 : ∀ w', (∃ p : Regrown, w' = grow (redrawn wr p.d) p.os) → (loadVar 39 ⟨qb, 0, none⟩).run Try.prog w' = .ok (.agg C2) w' := fun w' ⟨p, hp⟩ => by
                subst hp
                exact hC2 ▸ pload (KC.out p.d p.os).b.p
              have HL1 := Lib.hid L1
              have HL2 := Lib.hid L2
              have hbb : (b == b) = true := by simp
              have G1 := fun (w : World) => run_eqGuard_agg (P := Try.prog) w .eql 39 (.tmp 96) (.tmp 97) C1 C2 (by kernel_rfl)
              have G2 := fun (w : World) => run_eqGuard_agg (P := Try.prog) w .eql 39 (.tmp 106) (.tmp 107) C1 C2 (by kernel_rfl)
              clear hC1 hC2 hb hb' L1 L2
              by_cases hj1 : j < n2
              · go_wp2_with fail
                refine wp_region_quiet_below (by kernel_rfl) (by kernel_rfl) ?_
                refine wq_out ?_
                refine wq_do (by kernel_rfl) (fun K hK => ?_)
                go_simp
                refine hK _ ?_
                clear hK K
                refine wq_do (by kernel_rfl) (fun K hK => ?_)
                go_simp
                refine hK _ ?_
                clear hK K
                refine wq_do (by kernel_rfl) (fun K hK => ?_)
                go_simp
                apply Exists.intro
                refine ⟨fun a => ?_, hK _ ?_⟩
                · exact KS a.d a.os
                clear hK K
                refine wq_do (by kernel_rfl) (fun K hK => ?_)
                go_simp
                refine hK _ ?_
                clear hK K
                refine wq_do (by kernel_rfl) (fun K hK => ?_)
                go_simp
                refine hK _ ?_
                clear hK K
                refine wq_do (by kernel_rfl) (fun K hK => ?_)
                refine quiet_load_whole _ _ rfl pb C1 rfl HL1.out ?_
                refine hK _ ?_
                clear hK K
                go_frame
                refine wq_do (by kernel_rfl) (fun K hK => ?_)
                refine quiet_load_whole _ _ rfl qb C2 rfl HL2.out ?_
                refine hK _ ?_
                clear hK K
                go_frame
                refine wq_do (by kernel_rfl) (fun K hK => ?_)
                go_simp
                refine hK _ ?_
                clear hK K
                refine wq_do (by kernel_rfl) (fun K hK => ?_)
                go_simp
                refine hK _ ?_
                clear hK K
                refine wq_do (by kernel_rfl) (fun K hK => ?_)
                go_simp
                refine hK _ ?_
                clear hK K
                refine wq_do (by kernel_rfl) (fun K hK => ?_)
                go_simp
                refine hK _ ?_
                clear hK K
                refine wq_do (by kernel_rfl) (fun K hK => ?_)
                go_simp
                refine hK _ ?_
                clear hK K
                refine wq_do (by kernel_rfl) (fun K hK => ?_)
                go_simp
                apply Exists.intro
                refine ⟨fun a => ?_, hK _ ?_⟩
                · exact KT a.d a.os
                clear hK K
                refine wq_do (by kernel_rfl) (fun K hK => ?_)
                go_simp
                refine hK _ ?_
                clear hK K
                refine wq_do (by kernel_rfl) (fun K hK => ?_)
                go_simp
                refine hK _ ?_
                clear hK K
                refine wq_do (by kernel_rfl) (fun K hK => ?_)
                refine quiet_load_whole _ _ rfl pb C1 rfl HL1.out ?_
                refine hK _ ?_
                clear hK K
                go_frame
                refine wq_do (by kernel_rfl) (fun K hK => ?_)
                refine quiet_load_whole _ _ rfl qb C2 rfl HL2.out ?_
                refine hK _ ?_
                clear hK K
                go_frame
                refine wq_do (by kernel_rfl) (fun K hK => ?_)
                go_simp
                refine hK _ ?_
                clear hK K
                refine wq_do (by kernel_rfl) (fun K hK => ?_)
                go_simp
                refine hK _ ?_
                clear hK K
                refine wq_do (by kernel_rfl) (fun K hK => ?_)
                go_simp
                refine hK _ ?_
                clear hK K
                refine wq_do (by kernel_rfl) (fun K hK => ?_)
                go_simp
                refine hK _ ?_
                clear hK K
                refine wq_do (by kernel_rfl) (fun K hK => ?_)
                go_simp
                apply Exists.intro
                refine ⟨fun a => ?_, hK _ ?_⟩
                · exact KW a.d a.os
                clear hK K
                refine wq_do (by kernel_rfl) (fun K hK => ?_)
                go_simp
                refine hK _ ?_
                clear hK K
                refine wq_do (by kernel_rfl) (fun K hK => ?_)
                go_simp
                refine hK _ ?_
                clear hK K
                refine wq_nil ?_
                intro _ hw'
                obtain ⟨⟨dq, osq⟩, hw''⟩ := hw'
                subst hw''
                have HZ := Lib.hid (HLow.out.trans ((below_regrown wr dq osq).mono HLow.out.size))
                clear KS KT KW HL1 HL2
                go_wp2_with fail
                go_ret
                exact ⟨rfl, HZ.out⟩
              · go_wp2_with fail
                refine wp_region_quiet_below (by kernel_rfl) (by kernel_rfl) ?_
                refine wq_out ?_
                refine wq_do (by kernel_rfl) (fun K hK => ?_)
                go_simp
                refine hK _ ?_
                clear hK K
                refine wq_do (by kernel_rfl) (fun K hK => ?_)
                go_simp
                refine hK _ ?_
                clear hK K
                refine wq_do (by kernel_rfl) (fun K hK => ?_)
                go_simp
                apply Exists.intro
                refine ⟨fun a => ?_, hK _ ?_⟩
                · exact KS a.d a.os
                clear hK K
                refine wq_do (by kernel_rfl) (fun K hK => ?_)
                go_simp
                refine hK _ ?_
                clear hK K
                refine wq_do (by kernel_rfl) (fun K hK => ?_)
                go_simp
                refine hK _ ?_
                clear hK K
                refine wq_do (by kernel_rfl) (fun K hK => ?_)
                refine quiet_load_whole _ _ rfl pb C1 rfl HL1.out ?_
                refine hK _ ?_
                clear hK K
                go_frame
                refine wq_do (by kernel_rfl) (fun K hK => ?_)
                refine quiet_load_whole _ _ rfl qb C2 rfl HL2.out ?_
                refine hK _ ?_
                clear hK K
                go_frame
                refine wq_do (by kernel_rfl) (fun K hK => ?_)
                go_simp
                refine hK _ ?_
                clear hK K
                refine wq_do (by kernel_rfl) (fun K hK => ?_)
                go_simp
                refine hK _ ?_
                clear hK K
                refine wq_do (by kernel_rfl) (fun K hK => ?_)
                go_simp
                refine hK _ ?_
                clear hK K
                refine wq_do (by kernel_rfl) (fun K hK => ?_)
                go_simp
                refine hK _ ?_
                clear hK K
                refine wq_do (by kernel_rfl) (fun K hK => ?_)
                go_simp
                refine hK _ ?_
                clear hK K
                refine wq_do (by kernel_rfl) (fun K hK => ?_)
                go_simp
                apply Exists.intro
                refine ⟨fun a => ?_, hK _ ?_⟩
                · exact KT a.d a.os
                clear hK K
                refine wq_do (by kernel_rfl) (fun K hK => ?_)
                go_simp
                refine hK _ ?_
                clear hK K
                refine wq_do (by kernel_rfl) (fun K hK => ?_)
                go_simp
                refine hK _ ?_
                clear hK K
                refine wq_do (by kernel_rfl) (fun K hK => ?_)
                refine quiet_load_whole _ _ rfl pb C1 rfl HL1.out ?_
                refine hK _ ?_
                clear hK K
                go_frame
                refine wq_do (by kernel_rfl) (fun K hK => ?_)
                refine quiet_load_whole _ _ rfl qb C2 rfl HL2.out ?_
                refine hK _ ?_
                clear hK K
                go_frame
                refine wq_do (by kernel_rfl) (fun K hK => ?_)
                go_simp
                refine hK _ ?_
                clear hK K
                refine wq_do (by kernel_rfl) (fun K hK => ?_)
                go_simp
                refine hK _ ?_
                clear hK K
                refine wq_do (by kernel_rfl) (fun K hK => ?_)
                go_simp
                refine hK _ ?_
                clear hK K
                refine wq_do (by kernel_rfl) (fun K hK => ?_)
                go_simp
                refine hK _ ?_
                clear hK K
                refine wq_do (by kernel_rfl) (fun K hK => ?_)
                go_simp
                apply Exists.intro
                refine ⟨fun a => ?_, hK _ ?_⟩
                · exact KW a.d a.os
                clear hK K
                refine wq_do (by kernel_rfl) (fun K hK => ?_)
                go_simp
                refine hK _ ?_
                clear hK K
                refine wq_do (by kernel_rfl) (fun K hK => ?_)
                go_simp
                refine hK _ ?_
                clear hK K
                refine wq_nil ?_
                intro _ hw'
                obtain ⟨⟨dq, osq⟩, hw''⟩ := hw'
                subst hw''
                have HZ := Lib.hid (HLow.out.trans ((below_regrown wr dq osq).mono HLow.out.size))
                clear KS KT KW HL1 HL2
                go_wp2_with fail
                go_ret
                exact ⟨rfl, HZ.out⟩
  · have HO := Lib.hid (cnew_out hin w)
    by_cases h1 : a0 < 1
    · have g1 : decide (a0 < 1) = true := decide_eq_true h1
      go_enter Try.func4, Try.ntmps4
      go_wp2_with fail
      refine HO.out.mono ?_
      rintro e w1 ⟨rfl, rfl⟩
      go_wp2_with fail
      refine (wakes11_any _).mono ?_
      rintro e w9 ⟨rfl, hb9⟩
      go_wp2_with fail
      go_ret
      exact ⟨rfl, hb9⟩
    · have g1 : decide (a0 < 1) = false := decide_eq_false h1
      have g2 : decide (4 < a0) = true := decide_eq_true (by omega)
      go_enter Try.func4, Try.ntmps4
      go_wp2_with fail
      refine HO.out.mono ?_
      rintro e w1 ⟨rfl, rfl⟩
      go_wp2_with fail
      refine (wakes11_any _).mono ?_
      rintro e w9 ⟨rfl, hb9⟩
      go_wp2_with fail
      go_ret
      exact ⟨rfl, hb9⟩
end Go.Proofs.Ytibpleemclokiaa
