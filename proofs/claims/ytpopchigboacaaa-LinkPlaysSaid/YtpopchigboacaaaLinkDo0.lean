/- The contract of the law's own do: one act at both: Push. -/
import Derived.Test.YtpopchigboacaaaLinkPut
import Derived.Test.YtpopchigboacaaaWithin
import Derived.Test.YtpopchigboacaaaSame
import Derived.Test.YtpopchigboacaaaCopy
import Derived.Test.YtpopchigboacaaaHeldLast
import Derived.Deep.RegionHeld3
import Derived.Deep.DeepCutAuto
import Derived.Deep.CutBlock
namespace Go.Proofs.Ytpopchigboacaaa
open Go.RowKit Go.Sort
set_option linter.unusedSimpArgs false
set_option linter.unusedVariables false

set_option maxHeartbeats 8000000 in
set_option maxRecDepth 100000 in
theorem do_0 {R : Nat → Prop} {B : Nat} {w0 w : World} {qb pb : Nat} {room lost : Int} {l : List Bs} (h : Jo R B w0 w qb pb room lost (l.map Bs.z) lost l) (h0 : 0 ≤ lost) (h1 : lost ≤ 1000000) (hB : B ≤ w.heap.size) (hB0 : B ≤ w0.heap.size) {x : Ac} (hv : x.dd % 7 = 0) (hd : fit x.dd) (hb : Has w B x.A (u8s x.b)) (hy : ∀ y ∈ x.b, 0 ≤ y ∧ y ≤ 255) (hlen : x.b.length ≤ maxLen) (hn : x.A = none → x.c = 0) (hc : x.b.length ≤ x.c) :
    Calls Try.prog 19 #[.pointer (some ⟨qb, 0, none⟩), .pointer (some ⟨pb, 0, none⟩), .agg #[.int .i64 x.dd, .int .i64 x.pt, .int .i64 x.kk, .slice x.A x.b.length x.c]] w fun e w' => e = .returned (.bool true) ∧ ∃ lost' l', Jo R B w0 w' qb pb room lost' (l'.map Bs.z) lost' l' ∧ 0 ≤ lost' ∧ lost' ≤ lost + 1 := by
  have HJ := Lib.hid h
  have HBB := Lib.hid hB
  have HBW := Lib.hid hB0
  have HV := Lib.hid hv
  have HDD := Lib.hid hd
  have HXB := Lib.hid hb
  have HY := Lib.hid hy
  have HLN := Lib.hid hlen
  have HN := Lib.hid hn
  have HC := Lib.hid hc
  have H0 := Lib.hid h0
  have H1 := Lib.hid h1
  clear h h0 h1 hB hB0 hv hd hb hy hlen hn hc
  go_enter Try.func19, Try.ntmps19
  go_upto_region 1 with fail
  obtain ⟨H, hH⟩ : ∃ H, w.heap.size = H := ⟨_, rfl⟩
  have hb1 : Below w.heap.size w (w.alloc (.cells #[.int .i64 x.dd, .int .i64 x.pt, .int .i64 x.kk, .slice x.A x.b.length x.c] 45)) := (Below.refl _ _).alloc (Nat.le_refl _) _
  have hk1 := Blk.new w 45 #[.int .i64 x.dd, .int .i64 x.pt, .int .i64 x.kk, .slice x.A x.b.length x.c]
  obtain ⟨w1, hw1⟩ : ∃ w1, w.alloc (.cells #[.int .i64 x.dd, .int .i64 x.pt, .int .i64 x.kk, .slice x.A x.b.length x.c] 45) = w1 := ⟨_, rfl⟩
  have hj1 := HJ.out.below hb1 HBB.out
  have HRH := Lib.hid (show R H by rw [← hH]; exact HJ.out.new _ HJ.out.sz)
  have hx1 := HXB.out.below hb1 HBB.out
  have hB1 : B ≤ w1.heap.size := by rw [← hw1]; exact Nat.le_trans HBB.out hb1.size
  rw [hw1] at hk1 hj1 hx1 ⊢
  rw [hH] at hk1 ⊢
  have HK1 := Lib.hid hk1
  have HJ1 := Lib.hid hj1
  have HX1 := Lib.hid hx1
  have HB1 := Lib.hid hB1
  clear hb1 hk1 hw1 hj1 hx1 hB1 HJ HXB HBB
  go_cut [7] from 21 to 33 (fun s7 wx => s7 = .bool (hasB (l.map Bs.z) x.pt) ∧ ∃ m, wx = w1.drewN m)
  case first => as_aux_lemma =>
    obtain ⟨v, p1, p2, _⟩ := HJ1.out.p.ex
    obtain ⟨A, c, rfl, _, _⟩ := own_slice p2
    have hp := p1.cell 2
    have hc1 := HK1.out.cell 1
    simp only [List.getElem?_toArray, List.getElem?_cons_zero, List.getElem?_cons_succ] at hp hc1
    have HE := Lib.hid (hasB_map l x.pt)
    clear p1 p2
    by_cases h0 : 0 ≤ x.pt
    · have hd : decide (0 ≤ x.pt) = true := decide_eq_true h0
      go_quiet (fail)
      go_wp2_with fail
      go_meet
      exact ⟨by rw [HE.out, hd]; rfl, _, rfl⟩
    · have hd : decide (0 ≤ x.pt) = false := decide_eq_false h0
      go_quiet (fail)
      go_wp2_with fail
      go_meet
      exact ⟨by rw [HE.out, hd]; rfl, _, rfl⟩
  case rest => as_aux_lemma =>
    obtain ⟨rfl, m, rfl⟩ := hcut
    obtain ⟨w2, hw2⟩ : ∃ w2, w1.drewN m = w2 := ⟨_, rfl⟩
    have hk2 := HK1.out.drewN m
    have hj2 := HJ1.out.drewN m HB1.out
    have hx2 := HX1.out.drewN m
    have hB2 : B ≤ w2.heap.size := by rw [← hw2]; exact HB1.out
    rw [hw2] at hk2 hj2 hx2 ⊢
    have HK2 := Lib.hid hk2
    have HJ2 := Lib.hid hj2
    have HX2 := Lib.hid hx2
    have HB2 := Lib.hid hB2
    have hc0 := hk2.cell 0
    simp only [List.getElem?_toArray, List.getElem?_cons_zero, List.getElem?_cons_succ] at hc0
    clear hk2 hj2 hx2 hB2 HK1 HJ1 HX1 HB1 hw2
    obtain ⟨ib, hib⟩ : ∃ ib, hasB (l.map Bs.z) x.pt = ib := ⟨_, rfl⟩
    rw [hib] at ⊢
    have HIB := Lib.hid hib
    clear hib
    go_wp2_with fail
    have HW := Lib.hid (fun w => within_any x.dd 7 (by omega) (by omega) (wf_i64 HDD.out).1 (wf_i64 HDD.out).2 w)
    rw [HV.out] at HW
    clear hc0
    refine (HW.out _).mono ?_
    rintro e wv ⟨rfl, rfl⟩
    go_upto_block 0 with fail
    go_cut [8, 9, 10, 11, 12, 13, 14, 15, 16, 17, 18, 19, 20] from 37 to 309 (fun s8 s9 s10 s11 s12 s13 s14 s15 s16 s17 s18 s19 s20 wx => s8 = .bool true ∧ ∃ lost' l', Jo R B w0 wx qb pb room lost' (l'.map Bs.z) lost' l' ∧ 0 ≤ lost' ∧ lost' ≤ lost + 1)
    case first => as_aux_lemma =>
      have hc3 := HK2.out.cell 3
      simp only [List.getElem?_toArray, List.getElem?_cons_zero, List.getElem?_cons_succ] at hc3
      have hf3 := HK2.out.frozen 3
      obtain ⟨n1, hn1⟩ : ∃ n1, (x.b.take 50).length = n1 := ⟨_, rfl⟩
      have HN1 := Lib.hid hn1
      have HX50 := HX2.out.take 50
      have hlx := HLN.out
      go_upto_if 110 with fail
      go_cut [] from 111 to 114 (fun wx => Blk wx H 45 #[.int .i64 x.dd, .int .i64 x.pt, .int .i64 x.kk, .slice x.A n1 x.c] ∧ Turn (fun k => k = H) w2 wx)
      case first => as_aux_lemma =>
        by_cases h50 : 50 < x.b.length
        · obtain ⟨ax, _, hax, _⟩ := HX2.out.byte (k := 0) (by omega)
          have hn50 : n1 = 50 := by rw [← hn1, List.length_take]; omega
          have hc50 : 50 ≤ x.c := by have := HC.out; omega
          rw [hax] at hc3
          have HAX := Lib.hid hax
          have H50 := Lib.hid hn50
          clear hn1 hn50 hax HX50
          go_wp2_with fail
          rw [← HAX.out]
          go_meet
          rw [H50.out]
          exact ⟨HK2.out.set_ 3 _, (Turn.refl _ _).set_ _ _ rfl⟩
        · have hn50 : n1 = x.b.length := by rw [← hn1, List.length_take]; omega
          have H50 := Lib.hid hn50
          clear hn1 hn50 HX50
          go_wp2_with fail
          go_meet
          rw [H50.out]
          exact ⟨HK2.out, Turn.refl _ _⟩
      case rest => as_aux_lemma =>
        obtain ⟨hk3, ht3⟩ := hcut
        have hj3 := HJ2.out.kept ht3 (fun k hk e => by subst e; exact ⟨HRH.out, qz_blk HK2.out (by decide) (by decide), pz_blk HK2.out (by decide) (by decide)⟩) HB2.out
        have hx3 : Has wc B x.A (u8s (x.b.take 50)) := has_zone HX50 ht3 (fun k hk e => HJ2.out.low k hk (e ▸ HRH.out))
        have hb3 : B ≤ wc.heap.size := Nat.le_trans HB2.out ht3.size
        have h0s : w0.heap.size ≤ wc.heap.size := hj3.sz
        obtain ⟨y, hy⟩ : ∃ y : Bs, y = ⟨x.A, x.c, x.b.take 50⟩ := ⟨_, rfl⟩
        have hyA : x.A = y.A := by rw [hy]
        have hyc : x.c = y.c := by rw [hy]
        have hyz : x.b.take 50 = y.z := by rw [hy]
        have HYB := Lib.hid (show By y.z from ⟨by rw [← hyz, List.length_take]; omega, fun a ha => HY.out a (List.mem_of_mem_take (hyz ▸ ha))⟩)
        have HYn := Lib.hid (show y.A = none → y.c = 0 from fun e => by rw [← hyc]; exact HN.out (by rw [hyA]; exact e))
        rw [hyA, hyz] at hx3
        rw [hyA, hyc, ← hn1, hyz] at hk3
        rw [hyz] at hn1
        have HN1y := Lib.hid hn1
        have HJ3 := Lib.hid hj3
        have HK3 := Lib.hid hk3
        have HX3 := Lib.hid hx3
        have HB3 := Lib.hid hb3
        have HL50 := Lib.hid (show y.z.length ≤ 50 by rw [← hyz, List.length_take]; omega)
        have hc3 := hk3.cell 3
        simp only [List.getElem?_toArray, List.getElem?_cons_zero, List.getElem?_cons_succ] at hc3
        clear hj3 hk3 ht3 hx3 hb3 hf3 HX50 hn1 HN1 hlx hyA hyc hyz hy HX2 HK2 HC
        go_wp2_with fail
        refine (copy_own y.A y.c y.z.length B y.z _ rfl (by have := HL50.out; omega) HX3.out HYn.out).mono ?_
        rintro e w4 ⟨vb, rfl, hob, hb4⟩
        obtain ⟨Ab, cb, rfl, -, -⟩ := own_slice hob
        have hj4 := HJ3.out.below hb4 HB3.out
        have hk4 := HK3.out.below hb4 HK3.out.lt
        have hx4 := HX3.out.below hb4 HB3.out
        have HB4 := Lib.hid (Nat.le_trans HB3.out hb4.size)
        have HRb := Lib.hid (show ∀ g, (Value.slice Ab y.z.length cb).ownBlock = some g → R g from fun g hg => hj4.new g (Nat.le_trans h0s (hob.lt g hg).1))
        have HOb := Lib.hid (own_low hob (Nat.zero_le _))
        obtain ⟨vp, p1, p2, -⟩ := hj4.p.ex
        obtain ⟨Ap, cp, rfl, -, -⟩ := own_slice p2
        have hp2 := p1.cell 2
        have hp1 := p1.cell 1
        have hp0 := p1.cell 0
        have hc3 := hk4.cell 3
        simp only [List.getElem?_toArray, List.getElem?_cons_zero, List.getElem?_cons_succ] at hp2 hp1 hp0 hc3
        obtain ⟨fb, hfb⟩ : ∃ fb, decide ((l.length : Int) < room) = fb := ⟨_, rfl⟩
        have HFB := Lib.hid hfb
        have HJ4 := Lib.hid hj4
        have HK4 := Lib.hid hk4
        have HP4 := Lib.hid p1
        have HO4 := Lib.hid p2
        have HX4 := Lib.hid hx4
        clear hob hb4 hj4 hk4 p1 p2 hx4 HJ3 HK3 HX3 HB3
        go_wp2_with fail
        go_quiet (fail)
        go_upto_if 128 with fail
        go_cut [] from 129 to 147 (fun wx => Jo R B w0 wx qb pb room lost (l.map Bs.z) (if fb then lost else lost + 1) (if fb then l ++ [y] else l) ∧ wx.ownsRow 0 5 1 (.slice Ab y.z.length cb) y.z.length (u8s y.z))
        case first => as_aux_lemma =>
          cases fb with
          | true =>
            have HLR := Lib.hid (show l.length ≤ 256 by have h1 := HJ4.out.q.len; have h2 := HJ4.out.q.r2; rw [List.length_map] at h1; omega)
            have HJ3 := HJ4
            have HK3 := HK4
            have HP3 := HP4
            have HO3 := HO4
            have HX3 := HX4
            obtain ⟨w5, hw5⟩ : ∃ w5, w4.drewN nq = w5 := ⟨_, rfl⟩
            have hj5 := HJ3.out.drewN nq HB4.out
            have hk5 := HK3.out.drewN nq
            have hp5 := HP3.out.drewN nq
            have ho5 := (Turn.own ((Turn.refl (fun _ => False) w4).drewN nq) HO3.out (fun _ _ => id))
            have hx5 := HX3.out.drewN nq
            have hob5 := (Turn.own ((Turn.refl (fun _ => False) w4).drewN nq) HOb.out (fun _ _ => id))
            have hb5' : B ≤ (w4.drewN nq).heap.size := HB4.out
            rw [hw5] at hj5 hk5 hp5 ho5 hx5 hob5 hb5' ⊢
            have HOW := Lib.hid hob5
            clear HJ4 HK4 HP4 HO4 HX4 HB4 hp2 hp1 hp0 hc3 hw5 HOb HJ3 HK3 HP3 HO3 HX3
            have HJ4 := Lib.hid hj5
            have HK4 := Lib.hid hk5
            have HP4 := Lib.hid hp5
            have HX4 := Lib.hid hx5
            have HB4 := Lib.hid hb5'
            have HHas4 := Lib.hid (Has.own ho5)
            have HNone := Lib.hid (own_noneB ho5)
            have hp2 := hp5.cell 2
            have ha3 := hk5.cell 3
            simp only [List.getElem?_toArray, List.getElem?_cons_zero, List.getElem?_cons_succ] at hp2 ha3
            obtain ⟨n, hn⟩ : ∃ n, l.length = n := ⟨_, rfl⟩
            have HNn := Lib.hid hn
            rw [hn] at hp2 hp5
            clear HP4
            have HP4 := Lib.hid hp5
            clear hj5 hk5 hp5 ho5 hx5 hob5 hb5' hn
            obtain ⟨w4, hw4⟩ : ∃ w4, w5 = w4 := ⟨_, rfl⟩
            subst hw4

            obtain ⟨i0, hi, hx0, hx1, hx2⟩ := info_parts info_bs
            have HCp := Lib.hid (fun (W : World) (hh : Has W w5.heap.size Ap (bsV l)) => copy_bs Ap cp n w5.heap.size l W HNn.out (by have := HLR.out; omega) hh HNone.out)
            have HHd := Lib.hid HHas4.out.drew
            have HHa := Lib.hid (show Has (w5.drew.alloc (.cells #[.slice y.A y.z.length y.c] 27)) w5.heap.size Ap (bsV l) from HHas4.out.drew.below ((Below.refl _ w5.drew).alloc (Nat.le_refl _) _) (Nat.le_refl _))
            have HM1 := Lib.hid (show n + 1 ≤ maxLen by unfold maxLen; have := HLR.out; have := HNn.out; omega)
            have HM2 := Lib.hid (show (n + 1) * 24 ≤ 140737488355328 by have := HLR.out; have := HNn.out; omega)
            have HNE := Lib.hid (show H ≠ pb from Blk.ne_ HK4.out HP4.out (by decide))
            have HOne := Lib.hid (show ∀ u ∈ [Value.slice y.A y.z.length y.c], u.oneCell' = true by simp; rfl)
            have hlp := HP4.out.lt
            have hla := HK4.out.lt
            go_wp2_with fail
            have q2b := Blk.cell (HP4.out.drew.alloc (.cells #[.slice y.A y.z.length y.c] 27)) 2
            have q1b := Blk.cell (HK4.out.drew.alloc (.cells #[.slice y.A y.z.length y.c] 27)) 3
            simp only [List.getElem?_toArray, List.getElem?_cons_zero, List.getElem?_cons_succ] at q2b q1b
            refine wpL_region (S := fun w' => w'.cell? ⟨H, 3, none⟩ = some (.slice y.A y.z.length y.c) ∧ w'.cell? ⟨pb, 2, none⟩ = some (.slice Ap n cp)) (z := 12) (n := 13) (d := #[false, false, false, false, false, false, false, false, false, false, false, false, false]) (by kernel_rfl) (by rfl) (by rfl) (⟨ha3, hp2⟩) (fun hHeld => ?_)
            refine wpL_take (i := 0) (v := ?_) rfl (by kernel_rfl) (by kernel_rfl) (by kernel_rfl) (by kernel_rfl) (fun _ _ _ h => h) (Or.inl ⟨by rfl, ?_⟩) (by assumption) ?_
            rotate_left
            · (intro w hSw; (try dsimp only at hSw); first | (go_simp; done) | (go_simp; with_reducible rfl))
            try simp only [Act.put, List.setIfInBounds_toArray, List.set_cons_zero, List.set_cons_succ]
            refine wpL_take (i := 1) (v := ?_) rfl (by kernel_rfl) (by kernel_rfl) (by kernel_rfl) (by kernel_rfl) (fun _ _ _ h => h) (Or.inl ⟨by rfl, ?_⟩) (by assumption) ?_
            rotate_left
            · (intro w hSw; (try dsimp only at hSw); first | (go_simp; done) | (go_simp; with_reducible rfl))
            try simp only [Act.put, List.setIfInBounds_toArray, List.set_cons_zero, List.set_cons_succ]
            refine wpL_take (i := 2) (v := ?_) rfl (by kernel_rfl) (by kernel_rfl) (by kernel_rfl) (by kernel_rfl) (fun _ _ _ h => h) (Or.inl ⟨by rfl, ?_⟩) (by assumption) ?_
            rotate_left
            · (intro w hSw; (try dsimp only at hSw); first | (go_simp; done) | (go_simp; with_reducible rfl))
            try simp only [Act.put, List.setIfInBounds_toArray, List.set_cons_zero, List.set_cons_succ]
            refine wpL_take (i := 3) (v := ?_) rfl (by kernel_rfl) (by kernel_rfl) (by kernel_rfl) (by kernel_rfl) (fun _ _ _ h => h) (Or.inl ⟨by rfl, ?_⟩) (by assumption) ?_
            rotate_left
            · (intro w hSw; (try dsimp only at hSw); first | (go_simp; done) | (go_simp; with_reducible rfl))
            try simp only [Act.put, List.setIfInBounds_toArray, List.set_cons_zero, List.set_cons_succ]
            refine wpL_take (i := 4) (v := ?_) rfl (by kernel_rfl) (by kernel_rfl) (by kernel_rfl) (by kernel_rfl) (fun _ _ _ h => h) (Or.inl ⟨by rfl, ?_⟩) (by assumption) ?_
            rotate_left
            · (intro w hSw; (try dsimp only at hSw); first | (go_simp; done) | (go_simp; with_reducible rfl))
            try simp only [Act.put, List.setIfInBounds_toArray, List.set_cons_zero, List.set_cons_succ]
            refine wpL_take (i := 6) (v := ?_) rfl (by kernel_rfl) (by kernel_rfl) (by kernel_rfl) (by kernel_rfl) (fun _ _ _ h => h) (Or.inl ⟨by rfl, ?_⟩) (by assumption) ?_
            rotate_left
            · (intro w hSw; (try dsimp only at hSw); first | (go_simp; done) | (go_simp; with_reducible rfl))
            try simp only [Act.put, List.setIfInBounds_toArray, List.set_cons_zero, List.set_cons_succ]
            refine wpL_take (i := 7) (v := ?_) rfl (by kernel_rfl) (by kernel_rfl) (by kernel_rfl) (by kernel_rfl) (fun _ _ _ h => h) (Or.inl ⟨by rfl, ?_⟩) (by assumption) ?_
            rotate_left
            · (intro w hSw; (try dsimp only at hSw); first | (go_simp; done) | (go_simp; with_reducible rfl))
            try simp only [Act.put, List.setIfInBounds_toArray, List.set_cons_zero, List.set_cons_succ]
            refine wpL_ready (rs := [5, 8]) (by kernel_rfl) (by simp) ?_
            refine AllL.cons rfl (fun K hK => ?_) ?_
            rotate_left
            · refine AllL.cons rfl (fun K hK => ?_) AllL.nil
              go_simp
              refine hK.out _ _ (fun _ => ⟨q1b, q2b⟩) (fun hHeld => ?_)
              clear hK K
              have hHeld := hHeld (by decide)
              try simp only [Act.put, List.setIfInBounds_toArray, List.set_cons_zero, List.set_cons_succ]
              refine wpL_ready (rs := [5]) (by kernel_rfl) (by simp) ?_
              refine AllL.cons rfl (fun K hK => ?_) AllL.nil
              go_simp
              go_at_call 22
              refine (HCp.out (w5.drew.alloc (.cells #[.slice y.A y.z.length y.c] 27)) HHa.out).mono ?_
              rintro e wq ⟨v1, rfl, ho1, hb5⟩
              obtain ⟨A1, c1, rfl, -, -⟩ := own_slice ho1
              have hb5w : Below w5.heap.size w5 wq := ((Below.refl _ w5).drew.alloc (Nat.le_refl _) _).trans (hb5.mono (by simp))
              have hk5 := Blk.below HP4.out hb5w hlp
              have hm5 := Blk.below HK4.out hb5w hla
              have q2 := Blk.cell hk5 2
              have q1 := Blk.cell hm5 3
              simp only [List.getElem?_toArray, List.getElem?_cons_zero, List.getElem?_cons_succ] at q2 q1
              skip
              have hn5b : Has wq wq.heap.size (some ⟨w5.heap.size, 0, none⟩) [.slice y.A y.z.length y.c] := ((Has.fresh w5.drew #[.slice y.A y.z.length y.c] 27).tight.below hb5 (Nat.le_refl _)).tight
              try (go_wp2_with fail)
              refine hK.out _ _ (fun _ => ⟨q1, q2⟩) (fun hHeld => ?_)
              clear hK K
              have hHeld := hHeld (by decide)
              try simp only [Act.put, List.setIfInBounds_toArray, List.set_cons_zero, List.set_cons_succ]
              refine wpL_ready (rs := [9]) (by kernel_rfl) (by simp) ?_
              refine AllL.cons rfl (fun K hK => ?_) AllL.nil
              refine step_app (w := wq) rfl (.tmp 134) (.tmp 137) 40 rfl (w5.drew.alloc (.cells #[.slice y.A y.z.length y.c] 27)).heap.size 27 i0 (.slice none 0 0) 24 Try.underlying40 hi hx0 hx1 hx2 rfl (.slice A1 n c1) n (bsV l) rfl ho1 _ (some ⟨w5.heap.size, 0, none⟩) 1 1 [.slice y.A y.z.length y.c] rfl rfl hn5b (fun h => nomatch h) HOne.out HM1.out HM2.out hb5.size ?_
              intro vb w6 hob0 hgb hlb
              have hob := own_low hob0 (show w5.heap.size ≤ (w5.drew.alloc (.cells #[.slice y.A y.z.length y.c] 27)).heap.size by simp)
              obtain ⟨Ab2, cb2, rfl, -, -⟩ := own_slice hob
              have hb6 : Below w5.heap.size w5 w6 := hb5w.grown hgb hb5w.size (fun g hg => Nat.le_trans (show w5.heap.size ≤ (w5.drew.alloc (.cells #[.slice y.A y.z.length y.c] 27)).heap.size by simp) (ho1.lt g hg).1)
              have hk6 := Blk.below HP4.out hb6 hlp
              have hm6 := Blk.below HK4.out hb6 hla
              have q6 := Blk.cell hk6 2
              have r6 := Blk.frozen hk6 2
              have q61 := Blk.cell hm6 3
              have q7 := Blk.cell (hm6.far (p := ⟨pb, 2, none⟩) HNE.out (.slice Ab2 (n + 1) cb2)) 3
              simp only [List.getElem?_toArray, List.getElem?_cons_zero, List.getElem?_cons_succ] at q6 q61 q7
              skip
              refine hK.out _ _ (fun _ => ⟨q61, q6⟩) (fun hHeld => ?_)
              clear hK K
              have hHeld := hHeld (by decide)
              try simp only [Act.put, List.setIfInBounds_toArray, List.set_cons_zero, List.set_cons_succ]
              refine wpL_ready (rs := [10]) (by kernel_rfl) (by simp) ?_
              refine AllL.cons rfl (fun K hK => ?_) AllL.nil
              go_simp
              refine hK.out _ _ (fun _ => ⟨q61, q6⟩) (fun hHeld => ?_)
              clear hK K
              have hHeld := hHeld (by decide)
              try simp only [Act.put, List.setIfInBounds_toArray, List.set_cons_zero, List.set_cons_succ]
              refine wpL_ready (rs := [11]) (by kernel_rfl) (by simp) ?_
              refine AllL.cons rfl (fun K hK => ?_) AllL.nil
              go_simp
              refine hK.out _ _ (fun _ => ⟨q61, q6⟩) (fun hHeld => ?_)
              clear hK K
              have hHeld := hHeld (by decide)
              try simp only [Act.put, List.setIfInBounds_toArray, List.set_cons_zero, List.set_cons_succ]
              refine wpL_ready (rs := [12]) (by kernel_rfl) (by simp) ?_
              refine AllL.cons rfl (fun K hK => ?_) AllL.nil
              go_simp
              refine hK.out _ _ (fun _ => absurd rfl ‹_›) (fun hHeld => ?_)
              clear hK K
              try simp only [Act.put, List.setIfInBounds_toArray, List.set_cons_zero, List.set_cons_succ]
              refine wpL_done (by kernel_rfl) ?_ _
              have HF := Lib.hid (show Jo R B w0 (w6.setCell ⟨pb, 2, none⟩ (.slice Ab2 (n + 1) cb2)) qb pb room lost (l.map Bs.z) lost (l ++ [y]) from
                HJ4.out.put (l' := l ++ [y]) (v := .slice Ab2 (n + 1) cb2) hb6 (by rw [List.length_append, HNn.out, bs_app]; exact hob) (fun z hz => (List.mem_append.1 hz).elim (HJ4.out.in_ z) (fun h => by rw [List.mem_singleton.1 h]; exact ⟨HX4.out, HYB.out⟩)) HB4.out)
              have HOF := Lib.hid (own_far (below_own HOW.out hb6 (Nat.le_refl _)) (own_blk_ne (below_own HOW.out hb6 (Nat.le_refl _)) hk6 (by decide)) (p := ⟨pb, 2, none⟩) (.slice Ab2 (n + 1) cb2))
              clear hob hob0 hgb hlb hb6 hk6 hb5w hk5 hm5 ho1 hb5
              go_wp2_with fail
              go_meet
              exact ⟨HF.out, HOF.out⟩
            go_simp
            go_at_call 22
            with_reducible refine (HCp.out w5.drew HHd.out).mono ?_
            rintro e wq ⟨v1, rfl, ho1, hb5⟩
            obtain ⟨A1, c1, rfl, -, -⟩ := own_slice ho1
            have hb5w : Below w5.heap.size w5 wq := (Below.refl _ w5).drew.trans hb5
            have hk5 := Blk.below HP4.out hb5w hlp
            have hm5 := Blk.below HK4.out hb5w hla
            have q2 := Blk.cell hk5 2
            have q1 := Blk.cell hm5 3
            have q1a := Blk.cell (hm5.alloc (.cells #[.slice y.A y.z.length y.c] 27)) 3
            simp only [List.getElem?_toArray, List.getElem?_cons_zero, List.getElem?_cons_succ] at q2 q1 q1a
            skip
            have ho5 := World.ownsRow.alloc ho1 (.cells #[.slice y.A y.z.length y.c] 27)
            have hn5 : Has (wq.alloc (.cells #[.slice y.A y.z.length y.c] 27)) (wq.heap.size + 1) (some ⟨wq.heap.size, 0, none⟩) [.slice y.A y.z.length y.c] := Has.fresh wq #[.slice y.A y.z.length y.c] 27
            have hb5a : Below w5.heap.size w5 (wq.alloc (.cells #[.slice y.A y.z.length y.c] 27)) := hb5w.alloc hb5w.size _
            have q2a := Blk.cell (hk5.alloc (.cells #[.slice y.A y.z.length y.c] 27)) 2
            simp only [List.getElem?_toArray, List.getElem?_cons_zero, List.getElem?_cons_succ] at q2a
            try (go_wp2_with fail)
            refine hK.out _ _ (fun _ => ⟨q1, q2⟩) (fun hHeld => ?_)
            clear hK K
            have hHeld := hHeld (by decide)
            try simp only [Act.put, List.setIfInBounds_toArray, List.set_cons_zero, List.set_cons_succ]
            refine wpL_ready (rs := [8]) (by kernel_rfl) (by simp) ?_
            refine AllL.cons rfl (fun K hK => ?_) AllL.nil
            go_simp
            refine hK.out _ _ (fun _ => ⟨q1a, q2a⟩) (fun hHeld => ?_)
            clear hK K
            have hHeld := hHeld (by decide)
            try simp only [Act.put, List.setIfInBounds_toArray, List.set_cons_zero, List.set_cons_succ]
            refine wpL_ready (rs := [9]) (by kernel_rfl) (by simp) ?_
            refine AllL.cons rfl (fun K hK => ?_) AllL.nil
            refine step_app (w := wq.alloc (.cells #[.slice y.A y.z.length y.c] 27)) rfl (.tmp 134) (.tmp 137) 40 rfl w5.drew.heap.size 27 i0 (.slice none 0 0) 24 Try.underlying40 hi hx0 hx1 hx2 rfl (.slice A1 n c1) n (bsV l) rfl ho5 _ (some ⟨wq.heap.size, 0, none⟩) 1 1 [.slice y.A y.z.length y.c] rfl rfl hn5 (fun h => nomatch h) HOne.out HM1.out HM2.out hb5a.size ?_
            intro vb w6 hob0 hgb hlb
            have hob := own_low hob0 (show w5.heap.size ≤ w5.drew.heap.size from Nat.le_refl _)
            obtain ⟨Ab2, cb2, rfl, -, -⟩ := own_slice hob
            have hb6 : Below w5.heap.size w5 w6 := hb5a.grown hgb hb5a.size (fun g hg => (ho1.lt g hg).1)
            have hk6 := Blk.below HP4.out hb6 hlp
            have hm6 := Blk.below HK4.out hb6 hla
            have q6 := Blk.cell hk6 2
            have r6 := Blk.frozen hk6 2
            have q61 := Blk.cell hm6 3
            have q7 := Blk.cell (hm6.far (p := ⟨pb, 2, none⟩) HNE.out (.slice Ab2 (n + 1) cb2)) 3
            simp only [List.getElem?_toArray, List.getElem?_cons_zero, List.getElem?_cons_succ] at q6 q61 q7
            skip
            refine hK.out _ _ (fun _ => ⟨q61, q6⟩) (fun hHeld => ?_)
            clear hK K
            have hHeld := hHeld (by decide)
            try simp only [Act.put, List.setIfInBounds_toArray, List.set_cons_zero, List.set_cons_succ]
            refine wpL_ready (rs := [10]) (by kernel_rfl) (by simp) ?_
            refine AllL.cons rfl (fun K hK => ?_) AllL.nil
            go_simp
            refine hK.out _ _ (fun _ => ⟨q61, q6⟩) (fun hHeld => ?_)
            clear hK K
            have hHeld := hHeld (by decide)
            try simp only [Act.put, List.setIfInBounds_toArray, List.set_cons_zero, List.set_cons_succ]
            refine wpL_ready (rs := [11]) (by kernel_rfl) (by simp) ?_
            refine AllL.cons rfl (fun K hK => ?_) AllL.nil
            go_simp
            refine hK.out _ _ (fun _ => ⟨q61, q6⟩) (fun hHeld => ?_)
            clear hK K
            have hHeld := hHeld (by decide)
            try simp only [Act.put, List.setIfInBounds_toArray, List.set_cons_zero, List.set_cons_succ]
            refine wpL_ready (rs := [12]) (by kernel_rfl) (by simp) ?_
            refine AllL.cons rfl (fun K hK => ?_) AllL.nil
            go_simp
            refine hK.out _ _ (fun _ => absurd rfl ‹_›) (fun hHeld => ?_)
            clear hK K
            try simp only [Act.put, List.setIfInBounds_toArray, List.set_cons_zero, List.set_cons_succ]
            refine wpL_done (by kernel_rfl) ?_ _
            have HF := Lib.hid (show Jo R B w0 (w6.setCell ⟨pb, 2, none⟩ (.slice Ab2 (n + 1) cb2)) qb pb room lost (l.map Bs.z) lost (l ++ [y]) from
              HJ4.out.put (l' := l ++ [y]) (v := .slice Ab2 (n + 1) cb2) hb6 (by rw [List.length_append, HNn.out, bs_app]; exact hob) (fun z hz => (List.mem_append.1 hz).elim (HJ4.out.in_ z) (fun h => by rw [List.mem_singleton.1 h]; exact ⟨HX4.out, HYB.out⟩)) HB4.out)
            have HOF := Lib.hid (own_far (below_own HOW.out hb6 (Nat.le_refl _)) (own_blk_ne (below_own HOW.out hb6 (Nat.le_refl _)) hk6 (by decide)) (p := ⟨pb, 2, none⟩) (.slice Ab2 (n + 1) cb2))
            clear hob hob0 hgb hlb hb6 hk6 hb5w hk5 hm5 ho1 hb5
            go_wp2_with fail
            go_meet
            exact ⟨HF.out, HOF.out⟩
          | false =>
            have hr1 := HP4.out.frozen 1
            have hl1 := H0.out
            have hl2 := H1.out
            go_wp2_with fail
            go_meet
            exact ⟨(HJ4.out.drewN nq HB4.out).miss, own_far (Turn.own ((Turn.refl (fun _ => False) w4).drewN nq) HOb.out (fun _ _ => id)) (own_blk_ne HOb.out HP4.out (by decide)) _⟩
        case rest => as_aux_lemma =>
          obtain ⟨hj6, hob6⟩ := hcut
          have HJ6 := Lib.hid hj6
          have HO6 := Lib.hid hob6
          have HPu := Lib.hid (qpush_both (fb := fb) (A := Ab) (c := cb) hj6.q H0.out H1.out (by rw [List.length_map]; exact HFB.out) (Has.own hob6) rfl HYB.out)
          clear hj6 hob6 hp2 hp1 hp0 hc3 hfb
          go_wp2_with fail
          refine HPu.out.mono ?_
          rintro e w7 ⟨rfl, hq7, ht7⟩
          have hj7 := HJ6.out.of_q hq7 ht7
          have hob7 := ht7.own HO6.out (qz_own HO6.out (by decide) (by decide))
          have HJ7 := Lib.hid hj7
          have HO7 := Lib.hid hob7
          have HB7 := Lib.hid (show B ≤ w7.heap.size from Nat.le_trans HBW.out hj7.sz)
          have HM9 := Lib.hid (show y.z.length ≤ 65536 from HYB.out.len)
          obtain ⟨m, hm⟩ : ∃ m, y.z.length = m := ⟨_, rfl⟩
          rw [hm] at HO7 HRb HM9 ⊢
          have HLZ := Lib.hid hm
          clear hj7 hob7 hq7 ht7 HO6 HOb HO4 HP4 HK4 HX4 HJ4 HB4 hm
          go_wp2_with fail
          go_loopw [155] (fun s wl => ∃ (j : Nat) (zs : List Int), s = .int .i64 j ∧ j ≤ m ∧ Hid (zs.length = m) ∧ Hid (Jo R B w0 wl qb pb room (if fb then lost else lost + 1) (if fb then l.map Bs.z ++ [y.z] else l.map Bs.z) (if fb then lost else lost + 1) (if fb then l ++ [y] else l)) ∧ Hid (B ≤ wl.heap.size) ∧ Hid (wl.ownsRow 0 5 1 (.slice Ab m cb) m (u8s zs))) (fun s _ => m - (intOf s).toNat)
          case atStart => exact ⟨0, _, rfl, Nat.zero_le _, HLZ.out, HJ7.out, HB7.out, HO7.out⟩
          case round =>
            obtain ⟨j, zs, rfl, hj, HZl, HJl, HBl, HOl⟩ := hrel
            by_cases hjl : j < m
            · obtain ⟨g, cap, hv, _, _⟩ := HOl.out.form (by omega)
              injection hv with hv1 hv2 hv3
              subst hv1
              subst hv3
              have HG := Lib.hid (HRb.out g rfl)
              have hj2 : j < zs.length := by rw [HZl.out]; exact hjl
              have hcell := HOl.out.cellAt j (by omega)
              rw [u8s_get zs j hj2] at hcell
              obtain ⟨z, hz⟩ : ∃ z, zs.getD j 0 = z := ⟨_, rfl⟩
              rw [hz] at hcell
              have hfz := HOl.out.frozenAt j
              have HSt := Lib.hid (fun (z' : Int) => own_store HOl.out hjl z')
              have HJt := Lib.hid (fun (z' : Int) => (own_row HOl.out).elim fun cs h => h.elim fun fr h => HJl.out.far (wy := wr.setCell ⟨g, j, none⟩ (.int .u8 z')) ((Turn.refl (fun k => k = g) wr).set_ _ _ rfl) h HG.out HBl.out)
              have hm9 := HM9.out
              clear hz hj2
              go_wp2_with fail
              go_roundw
              case rel => exact ⟨j + 1, _, by go_num, by omega, by rw [List.length_set]; exact HZl.out, HJt.out _, Nat.le_trans HBl.out (by simp), HSt.out _⟩
              case measure => simp [intOf]; omega
            · have hje : j = m := by omega
              have HFin := Lib.hid (show Jo R B w0 wr qb pb room (if fb then lost else lost + 1) ((if fb then l ++ [y] else l).map Bs.z) (if fb then lost else lost + 1) (if fb then l ++ [y] else l) from by
                have h := HJl.out
                cases fb with
                | true => simpa using h
                | false => simpa using h)
              go_wp2_with fail
              go_meet
              exact ⟨by simp, _, _, HFin.out, by have := H0.out; cases fb <;> simp <;> omega, by cases fb <;> simp <;> omega⟩
    case rest => as_aux_lemma =>
      obtain ⟨rfl, lost', l', hj, hl0, hl1⟩ := hcut
      obtain ⟨v1, p1, p2, _⟩ := hj.p.ex
      obtain ⟨A1, c1, rfl, _, _⟩ := own_slice p2
      have hp1 := p1.cell 1
      have hp2 := p1.cell 2
      simp only [List.getElem?_toArray, List.getElem?_cons_zero, List.getElem?_cons_succ] at hp1 hp2
      have HLq := Lib.hid (fun q => (qlen_any (hj.q.drewN q)).mono (R' := fun e w' => e = .returned (.int .i64 (l'.length : Int)) ∧ w' = wc.drewN q) (fun e w' he => ⟨by rw [he.1, List.length_map], he.2.symm⟩))
      have HLo := Lib.hid (fun q => (qlost_any (hj.q.drewN q)).mono (R' := fun e w' => e = .returned (.int .i64 lost') ∧ w' = wc.drewN q) (fun e w' he => ⟨he.1, he.2.symm⟩))
      have HFin := Lib.hid hj
      have HL0 := Lib.hid hl0
      have HL1 := Lib.hid hl1
      have HBc := Lib.hid (show B ≤ wc.heap.size from Nat.le_trans HBW.out hj.sz)
      clear hj hl0 hl1 p1 p2
      go_wp2_with fail
      go_quiet ((first | (go_at_call 13; exact Calls.quiet_of_same (HLq.out _)) | (go_at_call 14; exact Calls.quiet_of_same (HLo.out _))))
      go_wp2_with fail
      go_ret
      exact ⟨rfl, lost', l', HFin.out.drewN _ HBc.out, HL0.out, HL1.out⟩
end Go.Proofs.Ytpopchigboacaaa
