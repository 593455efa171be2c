/- The contract of the law's own do: one act at both: Dup, of one that is there, with room. -/
import Derived.Test.YtpopchigboacaaaLinkJo
import Derived.Test.YtpopchigboacaaaWithin
import Derived.Test.YtpopchigboacaaaSame
import Derived.Test.YtpopchigboacaaaCopy
import Derived.Test.YtpopchigboacaaaHeldLast
import Derived.Deep.RegionHeld3
import Derived.Deep.DeepCutAuto
import Derived.Deep.CutBlock
namespace Go.Proofs.Ytpopchigboacaaa
open Go.RowKit Go.Sort
set_option linter.unusedSimpArgs false
set_option linter.unusedVariables false

set_option maxHeartbeats 8000000 in
set_option maxRecDepth 100000 in
theorem do_5a {R : Nat → Prop} {B : Nat} {w0 w : World} {qb pb : Nat} {room lost : Int} {l : List Bs} (h : Jo R B w0 w qb pb room lost (l.map Bs.z) lost l) (h0 : 0 ≤ lost) (h1 : lost ≤ 1000000) (hB : B ≤ w.heap.size) (hB0 : B ≤ w0.heap.size) {x : Ac} (hv : x.dd % 7 = 5) (hp : hasB (l.map Bs.z) x.pt = true ∧ (l.length : Int) < room) (hd : fit x.dd) (hb : Has w B x.A (u8s x.b)) (hy : ∀ y ∈ x.b, 0 ≤ y ∧ y ≤ 255) (hlen : x.b.length ≤ maxLen) (hn : x.A = none → x.c = 0) (hc : x.b.length ≤ x.c) :
    Calls Try.prog 19 #[.pointer (some ⟨qb, 0, none⟩), .pointer (some ⟨pb, 0, none⟩), .agg #[.int .i64 x.dd, .int .i64 x.pt, .int .i64 x.kk, .slice x.A x.b.length x.c]] w fun e w' => e = .returned (.bool true) ∧ ∃ lost' l', Jo R B w0 w' qb pb room lost' (l'.map Bs.z) lost' l' ∧ 0 ≤ lost' ∧ lost' ≤ lost + 1 := by
  have HJ := Lib.hid h
  have HBB := Lib.hid hB
  have HBW := Lib.hid hB0
  have HV := Lib.hid hv
  have HP := Lib.hid hp
  have HDD := Lib.hid hd
  have HXB := Lib.hid hb
  have HY := Lib.hid hy
  have HLN := Lib.hid hlen
  have HN := Lib.hid hn
  have HC := Lib.hid hc
  have H0 := Lib.hid h0
  have H1 := Lib.hid h1
  clear h h0 h1 hB hB0 hv hp hd hb hy hlen hn hc
  go_enter Try.func19, Try.ntmps19
  go_upto_region 1 with fail
  obtain ⟨H, hH⟩ : ∃ H, w.heap.size = H := ⟨_, rfl⟩
  have hb1 : Below w.heap.size w (w.alloc (.cells #[.int .i64 x.dd, .int .i64 x.pt, .int .i64 x.kk, .slice x.A x.b.length x.c] 45)) := (Below.refl _ _).alloc (Nat.le_refl _) _
  have hk1 := Blk.new w 45 #[.int .i64 x.dd, .int .i64 x.pt, .int .i64 x.kk, .slice x.A x.b.length x.c]
  obtain ⟨w1, hw1⟩ : ∃ w1, w.alloc (.cells #[.int .i64 x.dd, .int .i64 x.pt, .int .i64 x.kk, .slice x.A x.b.length x.c] 45) = w1 := ⟨_, rfl⟩
  have hj1 := HJ.out.below hb1 HBB.out
  have HRH := Lib.hid (show R H by rw [← hH]; exact HJ.out.new _ HJ.out.sz)
  have hx1 := HXB.out.below hb1 HBB.out
  have hB1 : B ≤ w1.heap.size := by rw [← hw1]; exact Nat.le_trans HBB.out hb1.size
  rw [hw1] at hk1 hj1 hx1 ⊢
  rw [hH] at hk1 ⊢
  have HK1 := Lib.hid hk1
  have HJ1 := Lib.hid hj1
  have HX1 := Lib.hid hx1
  have HB1 := Lib.hid hB1
  clear hb1 hk1 hw1 hj1 hx1 hB1 HJ HXB HBB
  go_cut [7] from 21 to 33 (fun s7 wx => s7 = .bool (hasB (l.map Bs.z) x.pt) ∧ ∃ m, wx = w1.drewN m)
  case first => as_aux_lemma =>
    obtain ⟨v, p1, p2, _⟩ := HJ1.out.p.ex
    obtain ⟨A, c, rfl, _, _⟩ := own_slice p2
    have hp := p1.cell 2
    have hc1 := HK1.out.cell 1
    simp only [List.getElem?_toArray, List.getElem?_cons_zero, List.getElem?_cons_succ] at hp hc1
    have HE := Lib.hid (hasB_map l x.pt)
    clear p1 p2
    by_cases h0 : 0 ≤ x.pt
    · have hd : decide (0 ≤ x.pt) = true := decide_eq_true h0
      go_quiet (fail)
      go_wp2_with fail
      go_meet
      exact ⟨by rw [HE.out, hd]; rfl, _, rfl⟩
    · have hd : decide (0 ≤ x.pt) = false := decide_eq_false h0
      go_quiet (fail)
      go_wp2_with fail
      go_meet
      exact ⟨by rw [HE.out, hd]; rfl, _, rfl⟩
  case rest => as_aux_lemma =>
    obtain ⟨rfl, m, rfl⟩ := hcut
    obtain ⟨w2, hw2⟩ : ∃ w2, w1.drewN m = w2 := ⟨_, rfl⟩
    have hk2 := HK1.out.drewN m
    have hj2 := HJ1.out.drewN m HB1.out
    have hx2 := HX1.out.drewN m
    have hB2 : B ≤ w2.heap.size := by rw [← hw2]; exact HB1.out
    rw [hw2] at hk2 hj2 hx2 ⊢
    have HK2 := Lib.hid hk2
    have HJ2 := Lib.hid hj2
    have HX2 := Lib.hid hx2
    have HB2 := Lib.hid hB2
    have hc0 := hk2.cell 0
    simp only [List.getElem?_toArray, List.getElem?_cons_zero, List.getElem?_cons_succ] at hc0
    clear hk2 hj2 hx2 hB2 HK1 HJ1 HX1 HB1 hw2
    obtain ⟨ib, hib⟩ : ∃ ib, hasB (l.map Bs.z) x.pt = ib := ⟨_, rfl⟩
    rw [hib] at ⊢
    have HIB := Lib.hid hib
    clear hib
    go_wp2_with fail
    have HW := Lib.hid (fun w => within_any x.dd 7 (by omega) (by omega) (wf_i64 HDD.out).1 (wf_i64 HDD.out).2 w)
    rw [HV.out] at HW
    clear hc0
    refine (HW.out _).mono ?_
    rintro e wv ⟨rfl, rfl⟩
    go_upto_block 0 with fail
    go_cut [8, 9, 10, 11, 12, 13, 14, 15, 16, 17, 18, 19, 20] from 37 to 309 (fun s8 s9 s10 s11 s12 s13 s14 s15 s16 s17 s18 s19 s20 wx => s8 = .bool true ∧ ∃ lost' l', Jo R B w0 wx qb pb room lost' (l'.map Bs.z) lost' l' ∧ 0 ≤ lost' ∧ lost' ≤ lost + 1)
    case first => as_aux_lemma =>
      cases ib with
      | true =>
        obtain ⟨k, hk, hkl⟩ := hasB_at HIB.out
        rw [List.length_map] at hkl
        have hkm : k < (l.map Bs.z).length := by simpa using hkl
        obtain ⟨y, hyk⟩ : ∃ y, l[k] = y := ⟨_, rfl⟩
        have hzk : (l.map Bs.z)[k] = y.z := by rw [List.getElem_map, hyk]
        have HYK := Lib.hid (show y ∈ l by rw [← hyk]; exact List.getElem_mem hkl)
        have HYE := Lib.hid hyk
        have HKL := Lib.hid hkl
        have HLR := Lib.hid (show l.length ≤ 256 by have h1 := HJ2.out.q.len; have h2 := HJ2.out.q.r2; rw [List.length_map] at h1; omega)
        have HK2 := hk ▸ HK2
        have hc1 := HK2.out.cell 1
        have hc2 := HK2.out.cell 2
        simp only [List.getElem?_toArray, List.getElem?_cons_zero, List.getElem?_cons_succ] at hc1 hc2

        obtain ⟨vp0, p10, p20, -⟩ := HJ2.out.p.ex
        obtain ⟨Ap0, cp0, rfl, -, -⟩ := own_slice p20
        have hp2 := p10.cell 2
        have hp0 := p10.cell 0
        simp only [List.getElem?_toArray, List.getElem?_cons_zero, List.getElem?_cons_succ] at hp2 hp0
        by_cases hroom : (l.length : Int) < room
        · have hd : decide ((l.length : Int) < room) = true := decide_eq_true hroom
          have HT := Lib.hid (qdup_in HJ2.out.q hkm (by rw [List.length_map]; exact hroom))
          rw [hzk] at HT
          clear hzk hyk hkm hk HIB hc2 p10 p20 hroom
          go_wp2_with fail
          go_quiet (fail)
          have HT2 := Lib.hid (qdup_in (HJ2.out.q.drewN nq) (k := k) (by simpa using HKL.out) (by rw [List.length_map]; exact of_decide_eq_true hd))
          have hz2 : (l.map Bs.z)[k]'(by simpa using HKL.out) = y.z := by rw [List.getElem_map, HYE.out]
          rw [hz2] at HT2
          clear hz2 hp2 hp0
          have HJ2n := Lib.hid (HJ2.out.drewN nq HB2.out)
          have HK2n := Lib.hid (HK2.out.drewN nq)
          go_wp2_with fail
          refine HT2.out.mono ?_
          rintro e w3 ⟨rfl, hq3, ht3⟩
          have hj3 := HJ2n.out.of_q hq3 ht3
          have hk3 := ht3.blk HK2n.out (qz_blk HK2n.out (by decide) (by decide))
          have HB3 := Lib.hid (show B ≤ w3.heap.size from Nat.le_trans HB2.out ht3.size)
          obtain ⟨vp, p1, p2, -⟩ := hj3.p.ex
          obtain ⟨gp, cp, rfl, hnc, hcm, hgl, hce⟩ := own_bs p2 HKL.out
          have hye : l[k]'HKL.out = y := HYE.out
          rw [hye] at hce
          obtain ⟨n, hn⟩ : ∃ n, l.length = n := ⟨_, rfl⟩
          have hp2 := p1.cell 2
          have hp0 := p1.cell 0
          have ha1 := hk3.cell 1
          have ha2 := hk3.cell 2
          simp only [List.getElem?_toArray, List.getElem?_cons_zero, List.getElem?_cons_succ] at hp2 hp0 ha1 ha2
          have hy3 : y.In w3 B := hj3.in_ y HYK.out
          have HHas := Lib.hid (Has.own p2)
          have hkn : k < n := hn ▸ HKL.out
          have hwk : IntKind.i64.wrap ((k : Int) + 1) = (k : Int) + 1 := by have := HKL.out; have := HLR.out; rw [IntKind.wrap_i64]; omega
          have hn9 : n ≤ 256 := hn ▸ HLR.out
          have HNn := Lib.hid hn
          rw [hn] at p1 hp2 hnc

          have hj4 := hj3
          clear hq3 ht3 hd
          go_wp2_with fail
          obtain ⟨w4, hw4⟩ : ∃ w4, w3 = w4 := ⟨_, rfl⟩
          subst hw4
          have HJ4 := Lib.hid hj3
          have HK4 := Lib.hid hk3
          have HP4 := Lib.hid p1
          have HHas4 := HHas
          have HB4 := HB3
          have HY4 := Lib.hid hy3
          have HGL := Lib.hid hgl
          have HNone := Lib.hid (show (some (⟨gp, 0, none⟩ : Addr)) = none → cp = 0 from fun e => nomatch e)

          obtain ⟨i0, hi, hx0, hx1, hx2⟩ := info_parts info_bs
          have HCp := Lib.hid (fun (W : World) (hh : Has W w3.heap.size (some ⟨gp, 0, none⟩) (bsV l)) => copy_bs (some ⟨gp, 0, none⟩) cp n w3.heap.size l W HNn.out (by have := HLR.out; omega) hh HNone.out)
          have HHd := Lib.hid HHas4.out.drew
          have HHa := Lib.hid (show Has (w3.drew.alloc (.cells #[.slice y.A y.z.length y.c] 27)) w3.heap.size (some ⟨gp, 0, none⟩) (bsV l) from HHas4.out.drew.below ((Below.refl _ w3.drew).alloc (Nat.le_refl _) _) (Nat.le_refl _))
          have HM1 := Lib.hid (show n + 1 ≤ maxLen by unfold maxLen; have := HLR.out; have := HNn.out; omega)
          have HM2 := Lib.hid (show (n + 1) * 24 ≤ 140737488355328 by have := HLR.out; have := HNn.out; omega)
          have HNE := Lib.hid (show H ≠ pb from Blk.ne_ HK4.out HP4.out (by decide))
          have HOne := Lib.hid (show ∀ u ∈ [Value.slice y.A y.z.length y.c], u.oneCell' = true by simp; rfl)
          have HPG := Lib.hid (show pb ≠ gp from fun e => own_blk_ne p2 p1 (by decide) (by rw [e]; rfl))
          have hlp := HP4.out.lt
          have hla := HK4.out.lt

          clear hj3 hk3 p1 p2 hy3 hj4 hcm hye hn hp0 ha2 hnc hgl
          have q2b := Blk.cell (HP4.out.drew.alloc (.cells #[.slice y.A y.z.length y.c] 27)) 2
          have q1b := Blk.cell (HK4.out.drew.alloc (.cells #[.slice y.A y.z.length y.c] 27)) 1
          simp only [List.getElem?_toArray, List.getElem?_cons_zero, List.getElem?_cons_succ] at q2b q1b
          have c5b : (w3.drew.alloc (.cells #[.slice y.A y.z.length y.c] 27)).cell? ⟨gp, k, none⟩ = some (.slice y.A y.z.length y.c) := (Below.cell ((Below.refl _ w3).drew.alloc (Nat.le_refl _) _) (p := ⟨gp, k, none⟩) HGL.out).trans hce
          refine wpL_region (S := fun w' => w'.cell? ⟨H, 1, none⟩ = some (.int .i64 k) ∧ w'.cell? ⟨pb, 2, none⟩ = some (.slice (some ⟨gp, 0, none⟩) n cp) ∧ w'.cell? ⟨gp, k, none⟩ = some (.slice y.A y.z.length y.c)) (z := 18) (n := 19) (d := #[false, false, false, false, false, false, false, false, false, false, false, false, false, false, false, false, false, false, false]) (by kernel_rfl) (by rfl) (by rfl) (⟨ha1, hp2, hce⟩) (fun hHeld => ?_)
          refine wpL_take (i := 0) (v := ?_) rfl (by kernel_rfl) (by kernel_rfl) (by kernel_rfl) (by kernel_rfl) (fun _ _ _ h => h) (Or.inl ⟨by rfl, ?_⟩) (by assumption) ?_
          rotate_left
          · (intro w hSw; (try dsimp only at hSw); first | (go_simp; done) | (go_simp; with_reducible rfl))
          try simp only [Act.put, List.setIfInBounds_toArray, List.set_cons_zero, List.set_cons_succ]
          refine wpL_take (i := 1) (v := ?_) rfl (by kernel_rfl) (by kernel_rfl) (by kernel_rfl) (by kernel_rfl) (fun _ _ _ h => h) (Or.inl ⟨by rfl, ?_⟩) (by assumption) ?_
          rotate_left
          · (intro w hSw; (try dsimp only at hSw); first | (go_simp; done) | (go_simp; with_reducible rfl))
          try simp only [Act.put, List.setIfInBounds_toArray, List.set_cons_zero, List.set_cons_succ]
          refine wpL_take (i := 2) (v := ?_) rfl (by kernel_rfl) (by kernel_rfl) (by kernel_rfl) (by kernel_rfl) (fun _ _ _ h => h) (Or.inl ⟨by rfl, ?_⟩) (by assumption) ?_
          rotate_left
          · (intro w hSw; (try dsimp only at hSw); first | (go_simp; done) | (go_simp; with_reducible rfl))
          try simp only [Act.put, List.setIfInBounds_toArray, List.set_cons_zero, List.set_cons_succ]
          refine wpL_take (i := 3) (v := ?_) rfl (by kernel_rfl) (by kernel_rfl) (by kernel_rfl) (by kernel_rfl) (fun _ _ _ h => h) (Or.inl ⟨by rfl, ?_⟩) (by assumption) ?_
          rotate_left
          · (intro w hSw; (try dsimp only at hSw); first | (go_simp; done) | (go_simp; with_reducible rfl))
          try simp only [Act.put, List.setIfInBounds_toArray, List.set_cons_zero, List.set_cons_succ]
          refine wpL_take (i := 4) (v := ?_) rfl (by kernel_rfl) (by kernel_rfl) (by kernel_rfl) (by kernel_rfl) (fun _ _ _ h => h) (Or.inl ⟨by rfl, ?_⟩) (by assumption) ?_
          rotate_left
          · (intro w hSw; (try dsimp only at hSw); first | (go_simp; done) | (go_simp; with_reducible rfl))
          try simp only [Act.put, List.setIfInBounds_toArray, List.set_cons_zero, List.set_cons_succ]
          refine wpL_take (i := 6) (v := ?_) rfl (by kernel_rfl) (by kernel_rfl) (by kernel_rfl) (by kernel_rfl) (fun _ _ _ h => h) (Or.inl ⟨by rfl, ?_⟩) (by assumption) ?_
          rotate_left
          · (intro w hSw; (try dsimp only at hSw); first | (go_simp; done) | (go_simp; with_reducible rfl))
          try simp only [Act.put, List.setIfInBounds_toArray, List.set_cons_zero, List.set_cons_succ]
          refine wpL_take (i := 7) (v := ?_) rfl (by kernel_rfl) (by kernel_rfl) (by kernel_rfl) (by kernel_rfl) (fun _ _ _ h => h) (Or.inl ⟨by rfl, ?_⟩) (by assumption) ?_
          rotate_left
          · (intro w hSw; (try dsimp only at hSw); first | (go_simp; done) | (go_simp; with_reducible rfl))
          try simp only [Act.put, List.setIfInBounds_toArray, List.set_cons_zero, List.set_cons_succ]
          refine wpL_take (i := 8) (v := ?_) rfl (by kernel_rfl) (by kernel_rfl) (by kernel_rfl) (by kernel_rfl) (fun _ _ _ h => h) (Or.inl ⟨by rfl, ?_⟩) (by assumption) ?_
          rotate_left
          · (intro w hSw; (try dsimp only at hSw); first | (go_simp; done) | (go_simp; with_reducible rfl))
          try simp only [Act.put, List.setIfInBounds_toArray, List.set_cons_zero, List.set_cons_succ]
          refine wpL_take (i := 9) (v := ?_) rfl (by kernel_rfl) (by kernel_rfl) (by kernel_rfl) (by kernel_rfl) (fun _ _ _ h => h) (Or.inl ⟨by rfl, ?_⟩) (by assumption) ?_
          rotate_left
          · (intro w hSw; (try dsimp only at hSw); first | (go_simp; done) | (go_simp; with_reducible rfl))
          try simp only [Act.put, List.setIfInBounds_toArray, List.set_cons_zero, List.set_cons_succ]
          refine wpL_take (i := 10) (v := ?_) rfl (by kernel_rfl) (by kernel_rfl) (by kernel_rfl) (by kernel_rfl) (fun _ _ _ h => h) (Or.inl ⟨by rfl, ?_⟩) (by assumption) ?_
          rotate_left
          · (intro w hSw; (try dsimp only at hSw); first | (go_simp; done) | (go_simp; with_reducible rfl))
          try simp only [Act.put, List.setIfInBounds_toArray, List.set_cons_zero, List.set_cons_succ]
          refine wpL_take (i := 11) (v := ?_) rfl (by kernel_rfl) (by kernel_rfl) (by kernel_rfl) (by kernel_rfl) (fun _ _ _ h => h) (Or.inl ⟨by rfl, ?_⟩) (by assumption) ?_
          rotate_left
          · (intro w hSw; (try dsimp only at hSw); first | (go_simp; done) | (go_simp; with_reducible rfl))
          try simp only [Act.put, List.setIfInBounds_toArray, List.set_cons_zero, List.set_cons_succ]
          refine wpL_take (i := 12) (v := ?_) rfl (by kernel_rfl) (by kernel_rfl) (by kernel_rfl) (by kernel_rfl) (fun _ _ _ h => h) (Or.inl ⟨by rfl, ?_⟩) (by assumption) ?_
          rotate_left
          · (intro w hSw; (try dsimp only at hSw); first | (go_simp; done) | (go_simp; with_reducible rfl))
          try simp only [Act.put, List.setIfInBounds_toArray, List.set_cons_zero, List.set_cons_succ]
          refine wpL_take (i := 13) (v := ?_) rfl (by kernel_rfl) (by kernel_rfl) (by kernel_rfl) (by kernel_rfl) (fun _ _ _ h => h) (Or.inl ⟨by rfl, ?_⟩) (by assumption) ?_
          rotate_left
          · (intro w hSw; (try dsimp only at hSw); first | (go_simp; done) | (go_simp; with_reducible rfl))
          try simp only [Act.put, List.setIfInBounds_toArray, List.set_cons_zero, List.set_cons_succ]
          refine wpL_ready (rs := [5, 14]) (by kernel_rfl) (by simp) ?_
          refine AllL.cons rfl (fun K hK => ?_) ?_
          rotate_left
          · refine AllL.cons rfl (fun K hK => ?_) AllL.nil
            go_simp
            refine hK.out _ _ (fun _ => ⟨q1b, q2b, c5b⟩) (fun hHeld => ?_)
            clear hK K
            have hHeld := hHeld (by decide)
            try simp only [Act.put, List.setIfInBounds_toArray, List.set_cons_zero, List.set_cons_succ]
            refine wpL_ready (rs := [5]) (by kernel_rfl) (by simp) ?_
            refine AllL.cons rfl (fun K hK => ?_) AllL.nil
            go_simp
            go_at_call 22
            refine (HCp.out (w3.drew.alloc (.cells #[.slice y.A y.z.length y.c] 27)) HHa.out).mono ?_
            rintro e w5 ⟨v1, rfl, ho1, hb5⟩
            obtain ⟨A1, c1, rfl, -, -⟩ := own_slice ho1
            have hb5w : Below w3.heap.size w3 w5 := ((Below.refl _ w3).drew.alloc (Nat.le_refl _) _).trans (hb5.mono (by simp))
            have hk5 := Blk.below HP4.out hb5w hlp
            have hm5 := Blk.below HK4.out hb5w hla
            have q2 := Blk.cell hk5 2
            have q1 := Blk.cell hm5 1
            simp only [List.getElem?_toArray, List.getElem?_cons_zero, List.getElem?_cons_succ] at q2 q1
            have c5 := (Below.cell hb5w (p := ⟨gp, k, none⟩) HGL.out).trans hce
            have c5a : (w5.alloc (.cells #[.slice y.A y.z.length y.c] 27)).cell? ⟨gp, k, none⟩ = some (.slice y.A y.z.length y.c) := (Below.cell (Below.alloc hb5w hb5w.size _) (p := ⟨gp, k, none⟩) HGL.out).trans hce
            have hn5b : Has w5 w5.heap.size (some ⟨w3.heap.size, 0, none⟩) [.slice y.A y.z.length y.c] := ((Has.fresh w3.drew #[.slice y.A y.z.length y.c] 27).tight.below hb5 (Nat.le_refl _)).tight
            try (go_wp2_with fail)
            refine hK.out _ _ (fun _ => ⟨q1, q2, c5⟩) (fun hHeld => ?_)
            clear hK K
            have hHeld := hHeld (by decide)
            try simp only [Act.put, List.setIfInBounds_toArray, List.set_cons_zero, List.set_cons_succ]
            refine wpL_ready (rs := [15]) (by kernel_rfl) (by simp) ?_
            refine AllL.cons rfl (fun K hK => ?_) AllL.nil
            refine step_app (w := w5) rfl (.tmp 297) (.tmp 306) 40 rfl (w3.drew.alloc (.cells #[.slice y.A y.z.length y.c] 27)).heap.size 27 i0 (.slice none 0 0) 24 Try.underlying40 hi hx0 hx1 hx2 rfl (.slice A1 n c1) n (bsV l) rfl ho1 _ (some ⟨w3.heap.size, 0, none⟩) 1 1 [.slice y.A y.z.length y.c] rfl rfl hn5b (fun h => nomatch h) HOne.out HM1.out HM2.out hb5.size ?_
            intro vb w6 hob0 hgb hlb
            have hob := own_low hob0 (show w3.heap.size ≤ (w3.drew.alloc (.cells #[.slice y.A y.z.length y.c] 27)).heap.size by simp)
            obtain ⟨Ab2, cb2, rfl, -, -⟩ := own_slice hob
            have hb6 : Below w3.heap.size w3 w6 := hb5w.grown hgb hb5w.size (fun g hg => Nat.le_trans (show w3.heap.size ≤ (w3.drew.alloc (.cells #[.slice y.A y.z.length y.c] 27)).heap.size by simp) (ho1.lt g hg).1)
            have hk6 := Blk.below HP4.out hb6 hlp
            have hm6 := Blk.below HK4.out hb6 hla
            have q6 := Blk.cell hk6 2
            have r6 := Blk.frozen hk6 2
            have q61 := Blk.cell hm6 1
            have q7 := Blk.cell (hm6.far (p := ⟨pb, 2, none⟩) HNE.out (.slice Ab2 (n + 1) cb2)) 1
            simp only [List.getElem?_toArray, List.getElem?_cons_zero, List.getElem?_cons_succ] at q6 q61 q7
            have c6 := (Below.cell hb6 (p := ⟨gp, k, none⟩) HGL.out).trans hce
            refine hK.out _ _ (fun _ => ⟨q61, q6, c6⟩) (fun hHeld => ?_)
            clear hK K
            have hHeld := hHeld (by decide)
            try simp only [Act.put, List.setIfInBounds_toArray, List.set_cons_zero, List.set_cons_succ]
            refine wpL_ready (rs := [16]) (by kernel_rfl) (by simp) ?_
            refine AllL.cons rfl (fun K hK => ?_) AllL.nil
            go_simp
            refine hK.out _ _ (fun _ => ⟨q61, q6, c6⟩) (fun hHeld => ?_)
            clear hK K
            have hHeld := hHeld (by decide)
            try simp only [Act.put, List.setIfInBounds_toArray, List.set_cons_zero, List.set_cons_succ]
            refine wpL_ready (rs := [17]) (by kernel_rfl) (by simp) ?_
            refine AllL.cons rfl (fun K hK => ?_) AllL.nil
            go_simp
            refine hK.out _ _ (fun _ => ⟨q61, q6, c6⟩) (fun hHeld => ?_)
            clear hK K
            have hHeld := hHeld (by decide)
            try simp only [Act.put, List.setIfInBounds_toArray, List.set_cons_zero, List.set_cons_succ]
            refine wpL_ready (rs := [18]) (by kernel_rfl) (by simp) ?_
            refine AllL.cons rfl (fun K hK => ?_) AllL.nil
            go_simp
            refine hK.out _ _ (fun _ => absurd rfl ‹_›) (fun hHeld => ?_)
            clear hK K
            try simp only [Act.put, List.setIfInBounds_toArray, List.set_cons_zero, List.set_cons_succ]
            refine wpL_done (by kernel_rfl) ?_ _
            have HF := Lib.hid (show Jo R B w0 (w6.setCell ⟨pb, 2, none⟩ (.slice Ab2 (n + 1) cb2)) qb pb room lost ((l ++ [y]).map Bs.z) lost (l ++ [y]) from by
              have h1 := HJ4.out.put (l' := l ++ [y]) (v := .slice Ab2 (n + 1) cb2) hb6 (by rw [List.length_append, HNn.out, bs_app]; exact hob) (fun x hx => (List.mem_append.1 hx).elim (HJ4.out.in_ x) (fun h => by rw [List.mem_singleton.1 h]; exact HY4.out)) HB4.out
              rw [List.map_append]
              exact h1)
            clear hob hob0 hgb hlb hb6 hk6 hb5w hk5 hm5 ho1 hb5
            go_wp2_with fail
            go_meet
            exact ⟨by simp, lost, _, HF.out, H0.out, by omega⟩
          go_simp
          go_at_call 22
          with_reducible refine (HCp.out w3.drew HHd.out).mono ?_
          rintro e w5 ⟨v1, rfl, ho1, hb5⟩
          obtain ⟨A1, c1, rfl, -, -⟩ := own_slice ho1
          have hb5w : Below w3.heap.size w3 w5 := (Below.refl _ w3).drew.trans hb5
          have hk5 := Blk.below HP4.out hb5w hlp
          have hm5 := Blk.below HK4.out hb5w hla
          have q2 := Blk.cell hk5 2
          have q1 := Blk.cell hm5 1
          have q1a := Blk.cell (hm5.alloc (.cells #[.slice y.A y.z.length y.c] 27)) 1
          simp only [List.getElem?_toArray, List.getElem?_cons_zero, List.getElem?_cons_succ] at q2 q1 q1a
          have c5 := (Below.cell hb5w (p := ⟨gp, k, none⟩) HGL.out).trans hce
          have c5a : (w5.alloc (.cells #[.slice y.A y.z.length y.c] 27)).cell? ⟨gp, k, none⟩ = some (.slice y.A y.z.length y.c) := (Below.cell (Below.alloc hb5w hb5w.size _) (p := ⟨gp, k, none⟩) HGL.out).trans hce
          have ho5 := World.ownsRow.alloc ho1 (.cells #[.slice y.A y.z.length y.c] 27)
          have hn5 : Has (w5.alloc (.cells #[.slice y.A y.z.length y.c] 27)) (w5.heap.size + 1) (some ⟨w5.heap.size, 0, none⟩) [.slice y.A y.z.length y.c] := Has.fresh w5 #[.slice y.A y.z.length y.c] 27
          have hb5a : Below w3.heap.size w3 (w5.alloc (.cells #[.slice y.A y.z.length y.c] 27)) := hb5w.alloc hb5w.size _
          have q2a := Blk.cell (hk5.alloc (.cells #[.slice y.A y.z.length y.c] 27)) 2
          simp only [List.getElem?_toArray, List.getElem?_cons_zero, List.getElem?_cons_succ] at q2a
          try (go_wp2_with fail)
          refine hK.out _ _ (fun _ => ⟨q1, q2, c5⟩) (fun hHeld => ?_)
          clear hK K
          have hHeld := hHeld (by decide)
          try simp only [Act.put, List.setIfInBounds_toArray, List.set_cons_zero, List.set_cons_succ]
          refine wpL_ready (rs := [14]) (by kernel_rfl) (by simp) ?_
          refine AllL.cons rfl (fun K hK => ?_) AllL.nil
          go_simp
          refine hK.out _ _ (fun _ => ⟨q1a, q2a, c5a⟩) (fun hHeld => ?_)
          clear hK K
          have hHeld := hHeld (by decide)
          try simp only [Act.put, List.setIfInBounds_toArray, List.set_cons_zero, List.set_cons_succ]
          refine wpL_ready (rs := [15]) (by kernel_rfl) (by simp) ?_
          refine AllL.cons rfl (fun K hK => ?_) AllL.nil
          refine step_app (w := w5.alloc (.cells #[.slice y.A y.z.length y.c] 27)) rfl (.tmp 297) (.tmp 306) 40 rfl w3.drew.heap.size 27 i0 (.slice none 0 0) 24 Try.underlying40 hi hx0 hx1 hx2 rfl (.slice A1 n c1) n (bsV l) rfl ho5 _ (some ⟨w5.heap.size, 0, none⟩) 1 1 [.slice y.A y.z.length y.c] rfl rfl hn5 (fun h => nomatch h) HOne.out HM1.out HM2.out hb5a.size ?_
          intro vb w6 hob0 hgb hlb
          have hob := own_low hob0 (show w3.heap.size ≤ w3.drew.heap.size from Nat.le_refl _)
          obtain ⟨Ab2, cb2, rfl, -, -⟩ := own_slice hob
          have hb6 : Below w3.heap.size w3 w6 := hb5a.grown hgb hb5a.size (fun g hg => (ho1.lt g hg).1)
          have hk6 := Blk.below HP4.out hb6 hlp
          have hm6 := Blk.below HK4.out hb6 hla
          have q6 := Blk.cell hk6 2
          have r6 := Blk.frozen hk6 2
          have q61 := Blk.cell hm6 1
          have q7 := Blk.cell (hm6.far (p := ⟨pb, 2, none⟩) HNE.out (.slice Ab2 (n + 1) cb2)) 1
          simp only [List.getElem?_toArray, List.getElem?_cons_zero, List.getElem?_cons_succ] at q6 q61 q7
          have c6 := (Below.cell hb6 (p := ⟨gp, k, none⟩) HGL.out).trans hce
          refine hK.out _ _ (fun _ => ⟨q61, q6, c6⟩) (fun hHeld => ?_)
          clear hK K
          have hHeld := hHeld (by decide)
          try simp only [Act.put, List.setIfInBounds_toArray, List.set_cons_zero, List.set_cons_succ]
          refine wpL_ready (rs := [16]) (by kernel_rfl) (by simp) ?_
          refine AllL.cons rfl (fun K hK => ?_) AllL.nil
          go_simp
          refine hK.out _ _ (fun _ => ⟨q61, q6, c6⟩) (fun hHeld => ?_)
          clear hK K
          have hHeld := hHeld (by decide)
          try simp only [Act.put, List.setIfInBounds_toArray, List.set_cons_zero, List.set_cons_succ]
          refine wpL_ready (rs := [17]) (by kernel_rfl) (by simp) ?_
          refine AllL.cons rfl (fun K hK => ?_) AllL.nil
          go_simp
          refine hK.out _ _ (fun _ => ⟨q61, q6, c6⟩) (fun hHeld => ?_)
          clear hK K
          have hHeld := hHeld (by decide)
          try simp only [Act.put, List.setIfInBounds_toArray, List.set_cons_zero, List.set_cons_succ]
          refine wpL_ready (rs := [18]) (by kernel_rfl) (by simp) ?_
          refine AllL.cons rfl (fun K hK => ?_) AllL.nil
          go_simp
          refine hK.out _ _ (fun _ => absurd rfl ‹_›) (fun hHeld => ?_)
          clear hK K
          try simp only [Act.put, List.setIfInBounds_toArray, List.set_cons_zero, List.set_cons_succ]
          refine wpL_done (by kernel_rfl) ?_ _
          have HF := Lib.hid (show Jo R B w0 (w6.setCell ⟨pb, 2, none⟩ (.slice Ab2 (n + 1) cb2)) qb pb room lost ((l ++ [y]).map Bs.z) lost (l ++ [y]) from by
            have h1 := HJ4.out.put (l' := l ++ [y]) (v := .slice Ab2 (n + 1) cb2) hb6 (by rw [List.length_append, HNn.out, bs_app]; exact hob) (fun x hx => (List.mem_append.1 hx).elim (HJ4.out.in_ x) (fun h => by rw [List.mem_singleton.1 h]; exact HY4.out)) HB4.out
            rw [List.map_append]
            exact h1)
          clear hob hob0 hgb hlb hb6 hk6 hb5w hk5 hm5 ho1 hb5
          go_wp2_with fail
          go_meet
          exact ⟨by simp, lost, _, HF.out, H0.out, by omega⟩

        · exact absurd HP.out.2 hroom
      | false => exact absurd HIB.out (by rw [HP.out.1]; simp)
    case rest => as_aux_lemma =>
      obtain ⟨rfl, lost', l', hj, hl0, hl1⟩ := hcut
      obtain ⟨v1, p1, p2, _⟩ := hj.p.ex
      obtain ⟨A1, c1, rfl, _, _⟩ := own_slice p2
      have hp1 := p1.cell 1
      have hp2 := p1.cell 2
      simp only [List.getElem?_toArray, List.getElem?_cons_zero, List.getElem?_cons_succ] at hp1 hp2
      have HLq := Lib.hid (fun q => (qlen_any (hj.q.drewN q)).mono (R' := fun e w' => e = .returned (.int .i64 (l'.length : Int)) ∧ w' = wc.drewN q) (fun e w' he => ⟨by rw [he.1, List.length_map], he.2.symm⟩))
      have HLo := Lib.hid (fun q => (qlost_any (hj.q.drewN q)).mono (R' := fun e w' => e = .returned (.int .i64 lost') ∧ w' = wc.drewN q) (fun e w' he => ⟨he.1, he.2.symm⟩))
      have HFin := Lib.hid hj
      have HL0 := Lib.hid hl0
      have HL1 := Lib.hid hl1
      have HBc := Lib.hid (show B ≤ wc.heap.size from Nat.le_trans HBW.out hj.sz)
      clear hj hl0 hl1 p1 p2
      go_wp2_with fail
      go_quiet ((first | (go_at_call 13; exact Calls.quiet_of_same (HLq.out _)) | (go_at_call 14; exact Calls.quiet_of_same (HLo.out _))))
      go_wp2_with fail
      go_ret
      exact ⟨rfl, lost', l', HFin.out.drewN _ HBc.out, HL0.out, HL1.out⟩
end Go.Proofs.Ytpopchigboacaaa
