/- The contract of the law's own do: one act at both: Take. -/
import Derived.Test.YtpopchigboacaaaLinkJo
import Derived.Test.YtpopchigboacaaaWithin
import Derived.Test.YtpopchigboacaaaSame
import Derived.Test.YtpopchigboacaaaCopy
import Derived.Test.YtpopchigboacaaaHeldLast
import Derived.Deep.RegionHeld3
import Derived.Deep.DeepCutAuto
import Derived.Deep.CutBlock
namespace Go.Proofs.Ytpopchigboacaaa
open Go.RowKit Go.Sort
set_option linter.unusedSimpArgs false
set_option linter.unusedVariables false

set_option maxHeartbeats 8000000 in
set_option maxRecDepth 100000 in
theorem do_3 {R : Nat → Prop} {B : Nat} {w0 w : World} {qb pb : Nat} {room lost : Int} {l : List Bs} (h : Jo R B w0 w qb pb room lost (l.map Bs.z) lost l) (h0 : 0 ≤ lost) (h1 : lost ≤ 1000000) (hB : B ≤ w.heap.size) (hB0 : B ≤ w0.heap.size) {x : Ac} (hv : x.dd % 7 = 3) (hd : fit x.dd) (hb : Has w B x.A (u8s x.b)) (hy : ∀ y ∈ x.b, 0 ≤ y ∧ y ≤ 255) (hlen : x.b.length ≤ maxLen) (hn : x.A = none → x.c = 0) (hc : x.b.length ≤ x.c) :
    Calls Try.prog 19 #[.pointer (some ⟨qb, 0, none⟩), .pointer (some ⟨pb, 0, none⟩), .agg #[.int .i64 x.dd, .int .i64 x.pt, .int .i64 x.kk, .slice x.A x.b.length x.c]] w fun e w' => e = .returned (.bool true) ∧ ∃ lost' l', Jo R B w0 w' qb pb room lost' (l'.map Bs.z) lost' l' ∧ 0 ≤ lost' ∧ lost' ≤ lost + 1 := by
  have HJ := Lib.hid h
  have HBB := Lib.hid hB
  have HBW := Lib.hid hB0
  have HV := Lib.hid hv
  have HDD := Lib.hid hd
  have HXB := Lib.hid hb
  have HY := Lib.hid hy
  have HLN := Lib.hid hlen
  have HN := Lib.hid hn
  have HC := Lib.hid hc
  have H0 := Lib.hid h0
  have H1 := Lib.hid h1
  clear h h0 h1 hB hB0 hv hd hb hy hlen hn hc
  go_enter Try.func19, Try.ntmps19
  go_upto_region 1 with fail
  obtain ⟨H, hH⟩ : ∃ H, w.heap.size = H := ⟨_, rfl⟩
  have hb1 : Below w.heap.size w (w.alloc (.cells #[.int .i64 x.dd, .int .i64 x.pt, .int .i64 x.kk, .slice x.A x.b.length x.c] 45)) := (Below.refl _ _).alloc (Nat.le_refl _) _
  have hk1 := Blk.new w 45 #[.int .i64 x.dd, .int .i64 x.pt, .int .i64 x.kk, .slice x.A x.b.length x.c]
  obtain ⟨w1, hw1⟩ : ∃ w1, w.alloc (.cells #[.int .i64 x.dd, .int .i64 x.pt, .int .i64 x.kk, .slice x.A x.b.length x.c] 45) = w1 := ⟨_, rfl⟩
  have hj1 := HJ.out.below hb1 HBB.out
  have HRH := Lib.hid (show R H by rw [← hH]; exact HJ.out.new _ HJ.out.sz)
  have hx1 := HXB.out.below hb1 HBB.out
  have hB1 : B ≤ w1.heap.size := by rw [← hw1]; exact Nat.le_trans HBB.out hb1.size
  rw [hw1] at hk1 hj1 hx1 ⊢
  rw [hH] at hk1 ⊢
  have HK1 := Lib.hid hk1
  have HJ1 := Lib.hid hj1
  have HX1 := Lib.hid hx1
  have HB1 := Lib.hid hB1
  clear hb1 hk1 hw1 hj1 hx1 hB1 HJ HXB HBB
  go_cut [7] from 21 to 33 (fun s7 wx => s7 = .bool (hasB (l.map Bs.z) x.pt) ∧ ∃ m, wx = w1.drewN m)
  case first => as_aux_lemma =>
    obtain ⟨v, p1, p2, _⟩ := HJ1.out.p.ex
    obtain ⟨A, c, rfl, _, _⟩ := own_slice p2
    have hp := p1.cell 2
    have hc1 := HK1.out.cell 1
    simp only [List.getElem?_toArray, List.getElem?_cons_zero, List.getElem?_cons_succ] at hp hc1
    have HE := Lib.hid (hasB_map l x.pt)
    clear p1 p2
    by_cases h0 : 0 ≤ x.pt
    · have hd : decide (0 ≤ x.pt) = true := decide_eq_true h0
      go_quiet (fail)
      go_wp2_with fail
      go_meet
      exact ⟨by rw [HE.out, hd]; rfl, _, rfl⟩
    · have hd : decide (0 ≤ x.pt) = false := decide_eq_false h0
      go_quiet (fail)
      go_wp2_with fail
      go_meet
      exact ⟨by rw [HE.out, hd]; rfl, _, rfl⟩
  case rest => as_aux_lemma =>
    obtain ⟨rfl, m, rfl⟩ := hcut
    obtain ⟨w2, hw2⟩ : ∃ w2, w1.drewN m = w2 := ⟨_, rfl⟩
    have hk2 := HK1.out.drewN m
    have hj2 := HJ1.out.drewN m HB1.out
    have hx2 := HX1.out.drewN m
    have hB2 : B ≤ w2.heap.size := by rw [← hw2]; exact HB1.out
    rw [hw2] at hk2 hj2 hx2 ⊢
    have HK2 := Lib.hid hk2
    have HJ2 := Lib.hid hj2
    have HX2 := Lib.hid hx2
    have HB2 := Lib.hid hB2
    have hc0 := hk2.cell 0
    simp only [List.getElem?_toArray, List.getElem?_cons_zero, List.getElem?_cons_succ] at hc0
    clear hk2 hj2 hx2 hB2 HK1 HJ1 HX1 HB1 hw2
    obtain ⟨ib, hib⟩ : ∃ ib, hasB (l.map Bs.z) x.pt = ib := ⟨_, rfl⟩
    rw [hib] at ⊢
    have HIB := Lib.hid hib
    clear hib
    go_wp2_with fail
    have HW := Lib.hid (fun w => within_any x.dd 7 (by omega) (by omega) (wf_i64 HDD.out).1 (wf_i64 HDD.out).2 w)
    rw [HV.out] at HW
    clear hc0
    refine (HW.out _).mono ?_
    rintro e wv ⟨rfl, rfl⟩
    go_upto_block 0 with fail
    go_cut [8, 9, 10, 11, 12, 13, 14, 15, 16, 17, 18, 19, 20] from 37 to 309 (fun s8 s9 s10 s11 s12 s13 s14 s15 s16 s17 s18 s19 s20 wx => s8 = .bool true ∧ ∃ lost' l', Jo R B w0 wx qb pb room lost' (l'.map Bs.z) lost' l' ∧ 0 ≤ lost' ∧ lost' ≤ lost + 1)
    case first => as_aux_lemma =>
      cases ib with
      | true =>
        obtain ⟨k, hk, hkl⟩ := hasB_at HIB.out
        rw [List.length_map] at hkl
        have hkm : k < (l.map Bs.z).length := by simpa using hkl
        obtain ⟨y, hyk⟩ : ∃ y, l[k] = y := ⟨_, rfl⟩
        have hzk : (l.map Bs.z)[k] = y.z := by rw [List.getElem_map, hyk]
        have HYK := Lib.hid (show y ∈ l by rw [← hyk]; exact List.getElem_mem hkl)
        have HYE := Lib.hid hyk
        have HKL := Lib.hid hkl
        have HLR := Lib.hid (show l.length ≤ 256 by have h1 := HJ2.out.q.len; have h2 := HJ2.out.q.r2; rw [List.length_map] at h1; omega)
        have HK2 := hk ▸ HK2
        have hc1 := HK2.out.cell 1
        have hc2 := HK2.out.cell 2
        simp only [List.getElem?_toArray, List.getElem?_cons_zero, List.getElem?_cons_succ] at hc1 hc2

        have HT := Lib.hid (qtake_in HJ2.out.q hkm)
        rw [hzk] at HT
        clear hzk hyk hkm hk HIB hc2
        go_wp2_with fail
        refine HT.out.mono ?_
        rintro e w3 ⟨cz, rfl, hby, hq3, ht3, hs3⟩
        have hj3 := HJ2.out.of_q (hq3.mono (fun k _ hk => Or.inl hk)) ht3
        have hk3 := ht3.blk HK2.out (qz_blk HK2.out (by decide) (by decide))
        have HB3 := Lib.hid (show B ≤ w3.heap.size from Nat.le_trans HB2.out (Nat.le_of_lt hs3))

        obtain ⟨vp, p1, p2, -⟩ := hj3.p.ex
        obtain ⟨gp, cp, rfl, hnc, hcm, hgl, hce⟩ := own_bs p2 HKL.out
        have hye : l[k]'HKL.out = y := HYE.out
        rw [hye] at hce
        obtain ⟨n, hn⟩ : ∃ n, l.length = n := ⟨_, rfl⟩
        have hp2 := p1.cell 2
        have hp0 := p1.cell 0
        have ha1 := hk3.cell 1
        have ha2 := hk3.cell 2
        simp only [List.getElem?_toArray, List.getElem?_cons_zero, List.getElem?_cons_succ] at hp2 hp0 ha1 ha2
        have hy3 : y.In w3 B := hj3.in_ y HYK.out
        have HHas := Lib.hid (Has.own p2)
        have hkn : k < n := hn ▸ HKL.out
        have hwk : IntKind.i64.wrap ((k : Int) + 1) = (k : Int) + 1 := by have := HKL.out; have := HLR.out; rw [IntKind.wrap_i64]; omega
        have hn9 : n ≤ 256 := hn ▸ HLR.out
        have HNn := Lib.hid hn
        rw [hn] at p1 hp2 hnc

        have HSq := Lib.hid (fun q => same_is (A := some ⟨w2.heap.size, 0, none⟩) (c := cz) (c' := y.c) (r := true) rfl rfl (by have := hy3.good.len; omega) (by simp [sameB]) (w3.drewN q) (hby.has.tight.drewN q) (hy3.has.tight.drewN q))

        clear hby hq3 ht3 hs3 hy3
        go_wp2_with fail
        go_quiet ((go_at_call 12; exact Calls.quiet_of (HSq.out _)))

        go_wp2_with fail

        obtain ⟨w4, hw4⟩ : ∃ w4, w3.drewN nq = w4 := ⟨_, rfl⟩
        have hj4 := hj3.drewN nq HB3.out
        have hk4 := hk3.drewN nq
        have hp4 := p1.drewN nq
        have hhas4 : Has (w3.drewN nq) (w3.drewN nq).heap.size _ _ := HHas.out.drewN nq
        have hB4 : B ≤ (w3.drewN nq).heap.size := HB3.out
        rw [hw4] at hj4 hk4 hp4 hhas4 hB4 ⊢
        have HJ4 := Lib.hid hj4
        have HK4 := Lib.hid hk4
        have HP4 := Lib.hid hp4
        have HHas4 := Lib.hid hhas4
        have HB4 := Lib.hid hB4
        have hp2 := hp4.cell 2
        have ha1 := hk4.cell 1
        simp only [List.getElem?_toArray, List.getElem?_cons_zero, List.getElem?_cons_succ] at hp2 ha1
        clear hj4 hk4 hp4 hhas4 hB4 hw4

        have R1 := fun (w : World) => bslice_head (w := w) (some ⟨gp, 0, none⟩) (n := n) (c := cp) (k := k) (by omega)
        have R2 : ∀ w : World, (Instr.slice 40 (.slice (some ⟨gp, 0, none⟩) n cp) (some (.int .i64 ((k : Int) + 1))) none none).run Try.prog w = .ok (.slice (tailB (some ⟨gp, 0, none⟩) cp (k + 1)) (n - (k + 1)) (cp - (k + 1))) w := fun w => by
          rw [show ((k : Int) + 1) = ((k + 1 : Nat) : Int) by omega]
          exact bslice_tail (w := w) (some ⟨gp, 0, none⟩) (n := n) (c := cp) (k := k + 1) (by omega)
        obtain ⟨i0, hi, hx0, hx1, hx2⟩ := info_parts info_bs
        have HCp := Lib.hid (copy_bs (some ⟨gp, 0, none⟩) cp k w4.heap.size (l.take k) w4.drew (by rw [List.length_take]; have := HNn.out; omega) (by rw [List.length_take]; omega) ((has_head HHas4.out k).drew) (fun e => nomatch e))
        have HTl := Lib.hid (has_tailB (k := k + 1) HHas4.out (show l.length ≤ cp by have := HNn.out; omega))
        have HTn := Lib.hid (fun e => tailB_none (A := some ⟨gp, 0, none⟩) (c := cp) (k := k + 1) (fun e => nomatch e) e)
        have HT1 := Lib.hid (bs_one (l.drop (k + 1)))
        have HTL := Lib.hid (show (bsV (l.drop (k + 1))).length = n - (k + 1) by rw [bs_len, List.length_drop, HNn.out])
        have HM1 := Lib.hid (show k + (n - (k + 1)) ≤ maxLen by unfold maxLen; omega)
        have HM2 := Lib.hid (show (k + (n - (k + 1))) * 24 ≤ 140737488355328 by omega)
        have HE := Lib.hid (show k + (n - (k + 1)) = (cutL l k).length by rw [cutL_len HKL.out, HNn.out]; omega)
        have HNE := Lib.hid (show H ≠ pb from Blk.ne_ HK4.out HP4.out (by decide))
        have hlp := HP4.out.lt
        have hla := HK4.out.lt
        clear hnc
        refine wpL_region (S := fun w' => w'.cell? ⟨H, 1, none⟩ = some (.int .i64 k) ∧ w'.cell? ⟨pb, 2, none⟩ = some (.slice (some ⟨gp, 0, none⟩) n cp)) (z := 20) (n := 21) (d := #[false, false, false, false, false, false, false, false, false, false, false, false, false, false, false, false, false, false, false, false, false]) (by kernel_rfl) (by rfl) (by rfl) (⟨ha1, hp2⟩) (fun hHeld => ?_)
        refine wpL_take (i := 0) (v := ?_) rfl (by kernel_rfl) (by kernel_rfl) (by kernel_rfl) (by kernel_rfl) (fun _ _ _ h => h) (Or.inl ⟨by rfl, ?_⟩) (by assumption) ?_
        rotate_left
        · (intro w hSw; (try dsimp only at hSw); first | (go_simp; done) | (go_simp; with_reducible rfl))
        try simp only [Act.put, List.setIfInBounds_toArray, List.set_cons_zero, List.set_cons_succ]
        refine wpL_take (i := 1) (v := ?_) rfl (by kernel_rfl) (by kernel_rfl) (by kernel_rfl) (by kernel_rfl) (fun _ _ _ h => h) (Or.inl ⟨by rfl, ?_⟩) (by assumption) ?_
        rotate_left
        · (intro w hSw; (try dsimp only at hSw); first | (go_simp; done) | (go_simp; with_reducible rfl))
        try simp only [Act.put, List.setIfInBounds_toArray, List.set_cons_zero, List.set_cons_succ]
        refine wpL_take (i := 2) (v := ?_) rfl (by kernel_rfl) (by kernel_rfl) (by kernel_rfl) (by kernel_rfl) (fun _ _ _ h => h) (Or.inl ⟨by rfl, ?_⟩) (by assumption) ?_
        rotate_left
        · (intro w hSw; (try dsimp only at hSw); first | (go_simp; done) | (go_simp; with_reducible rfl))
        try simp only [Act.put, List.setIfInBounds_toArray, List.set_cons_zero, List.set_cons_succ]
        refine wpL_take (i := 3) (v := ?_) rfl (by kernel_rfl) (by kernel_rfl) (by kernel_rfl) (by kernel_rfl) (fun _ _ _ h => h) (Or.inl ⟨by rfl, ?_⟩) (by assumption) ?_
        rotate_left
        · (intro w hSw; (try dsimp only at hSw); first | (go_simp; done) | (go_simp; with_reducible rfl))
        try simp only [Act.put, List.setIfInBounds_toArray, List.set_cons_zero, List.set_cons_succ]
        refine wpL_take (i := 4) (v := ?_) rfl (by kernel_rfl) (by kernel_rfl) (by kernel_rfl) (by kernel_rfl) (fun _ _ _ h => h) (Or.inl ⟨by rfl, ?_⟩) (by assumption) ?_
        rotate_left
        · (intro w hSw; (try dsimp only at hSw); first | (go_simp; done) | (go_simp; with_reducible rfl))
        try simp only [Act.put, List.setIfInBounds_toArray, List.set_cons_zero, List.set_cons_succ]
        refine wpL_take (i := 5) (v := ?_) rfl (by kernel_rfl) (by kernel_rfl) (by kernel_rfl) (by kernel_rfl) (fun _ _ _ h => h) (Or.inl ⟨by rfl, ?_⟩) (by assumption) ?_
        rotate_left
        · (intro w hSw; (try dsimp only at hSw); first | (go_simp; done) | (go_simp; with_reducible rfl))
        try simp only [Act.put, List.setIfInBounds_toArray, List.set_cons_zero, List.set_cons_succ]
        refine wpL_take (i := 6) (v := ?_) rfl (by kernel_rfl) (by kernel_rfl) (by kernel_rfl) (by kernel_rfl) (fun _ _ _ h => h) (Or.inl ⟨by rfl, ?_⟩) (by assumption) ?_
        rotate_left
        · (intro w hSw; (try dsimp only at hSw); first | (go_simp; done) | (go_simp; with_reducible rfl))
        try simp only [Act.put, List.setIfInBounds_toArray, List.set_cons_zero, List.set_cons_succ]
        refine wpL_take (i := 7) (v := ?_) rfl (by kernel_rfl) (by kernel_rfl) (by kernel_rfl) (by kernel_rfl) (fun _ _ _ h => h) (Or.inl ⟨by rfl, ?_⟩) (by assumption) ?_
        rotate_left
        · (intro w hSw; (try dsimp only at hSw); first | (go_simp; done) | (go_simp; with_reducible rfl))
        try simp only [Act.put, List.setIfInBounds_toArray, List.set_cons_zero, List.set_cons_succ]
        refine wpL_take (i := 9) (v := ?_) rfl (by kernel_rfl) (by kernel_rfl) (by kernel_rfl) (by kernel_rfl) (fun _ _ _ h => h) (Or.inl ⟨by rfl, ?_⟩) (by assumption) ?_
        rotate_left
        · (intro w hSw; (try dsimp only at hSw); first | (go_simp; done) | (go_simp; with_reducible rfl))
        try simp only [Act.put, List.setIfInBounds_toArray, List.set_cons_zero, List.set_cons_succ]
        refine wpL_take (i := 10) (v := ?_) rfl (by kernel_rfl) (by kernel_rfl) (by kernel_rfl) (by kernel_rfl) (fun _ _ _ h => h) (Or.inl ⟨by rfl, ?_⟩) (by assumption) ?_
        rotate_left
        · (intro w hSw; (try dsimp only at hSw); first | (go_simp; done) | (go_simp; with_reducible rfl))
        try simp only [Act.put, List.setIfInBounds_toArray, List.set_cons_zero, List.set_cons_succ]
        refine wpL_take (i := 11) (v := ?_) rfl (by kernel_rfl) (by kernel_rfl) (by kernel_rfl) (by kernel_rfl) (fun _ _ _ h => h) (Or.inl ⟨by rfl, ?_⟩) (by assumption) ?_
        rotate_left
        · (intro w hSw; (try dsimp only at hSw); first | (go_simp; done) | (go_simp; with_reducible rfl))
        try simp only [Act.put, List.setIfInBounds_toArray, List.set_cons_zero, List.set_cons_succ]
        refine wpL_take (i := 12) (v := ?_) rfl (by kernel_rfl) (by kernel_rfl) (by kernel_rfl) (by kernel_rfl) (fun _ _ _ h => h) (Or.inl ⟨by rfl, ?_⟩) (by assumption) ?_
        rotate_left
        · (intro w hSw; (try dsimp only at hSw); first | (go_simp; done) | (go_simp; with_reducible rfl))
        try simp only [Act.put, List.setIfInBounds_toArray, List.set_cons_zero, List.set_cons_succ]
        refine wpL_take (i := 13) (v := ?_) rfl (by kernel_rfl) (by kernel_rfl) (by kernel_rfl) (by kernel_rfl) (fun _ _ _ h => h) (Or.inl ⟨by rfl, ?_⟩) (by assumption) ?_
        rotate_left
        · (intro w hSw; (try dsimp only at hSw); first | (go_simp; done) | (go_simp; with_reducible rfl))
        try simp only [Act.put, List.setIfInBounds_toArray, List.set_cons_zero, List.set_cons_succ]
        refine wpL_take (i := 14) (v := ?_) rfl (by kernel_rfl) (by kernel_rfl) (by kernel_rfl) (by kernel_rfl) (fun _ _ _ h => h) (Or.inl ⟨by rfl, ?_⟩) (by assumption) ?_
        rotate_left
        · (intro w hSw; (try dsimp only at hSw); first | (go_simp; done) | (go_simp; with_reducible rfl))
        try simp only [Act.put, List.setIfInBounds_toArray, List.set_cons_zero, List.set_cons_succ]
        refine wpL_take (i := 15) (v := ?_) rfl (by kernel_rfl) (by kernel_rfl) (by kernel_rfl) (by kernel_rfl) (fun _ _ _ h => h) (Or.inl ⟨by rfl, ?_⟩) (by assumption) ?_
        rotate_left
        · (intro w hSw; (try dsimp only at hSw); first | (go_simp; done) | (go_simp; with_reducible rfl))
        try simp only [Act.put, List.setIfInBounds_toArray, List.set_cons_zero, List.set_cons_succ]
        refine wpL_take (i := 16) (v := ?_) rfl (by kernel_rfl) (by kernel_rfl) (by kernel_rfl) (by kernel_rfl) (fun _ _ _ h => h) (Or.inl ⟨by rfl, ?_⟩) (by assumption) ?_
        rotate_left
        · (intro w hSw; (try dsimp only at hSw); first | (go_simp; done) | (go_simp; with_reducible rfl))
        try simp only [Act.put, List.setIfInBounds_toArray, List.set_cons_zero, List.set_cons_succ]
        refine wpL_ready (rs := [8]) (by kernel_rfl) (by simp) ?_
        refine AllL.cons rfl (fun K hK => ?_) AllL.nil
        go_simp
        go_at_call 22
        refine HCp.out.mono ?_
        rintro e w5 ⟨v1, rfl, ho1, hb5⟩
        obtain ⟨A1, c1, rfl, -, -⟩ := own_slice ho1
        have hb5w : Below w4.heap.size w4 w5 := (Below.refl _ w4).drew.trans hb5
        have hk5 := Blk.below HP4.out hb5w hlp
        have hm5 := Blk.below HK4.out hb5w hla
        have q2 := Blk.cell hk5 2
        have q1 := Blk.cell hm5 1
        simp only [List.getElem?_toArray, List.getElem?_cons_zero, List.getElem?_cons_succ] at q2 q1
        try (go_wp2_with fail)
        refine hK.out _ _ (fun _ => ⟨q1, q2⟩) (fun hHeld => ?_)
        clear hK K
        have hHeld := hHeld (by decide)
        try simp only [Act.put, List.setIfInBounds_toArray, List.set_cons_zero, List.set_cons_succ]
        refine wpL_ready (rs := [17]) (by kernel_rfl) (by simp) ?_
        refine AllL.cons rfl (fun K hK => ?_) AllL.nil
        refine step_app (w := w5) rfl (.tmp 210) (.tmp 218) 40 rfl w4.drew.heap.size 27 i0 (.slice none 0 0) 24 Try.underlying40 hi hx0 hx1 hx2 rfl (.slice A1 k c1) k (bsV (l.take k)) rfl ho1 w4.heap.size (tailB (some ⟨gp, 0, none⟩) cp (k + 1)) (n - (k + 1)) (cp - (k + 1)) (bsV (l.drop (k + 1))) rfl HTL.out (HTl.out.below hb5w (Nat.le_refl _)) HTn.out HT1.out HM1.out HM2.out hb5.size ?_
        intro vb w6 hob hgb hlb
        obtain ⟨Ab, cb, rfl, -, -⟩ := own_slice hob
        have hb6 : Below w4.heap.size w4 w6 := hb5w.grown hgb hb5w.size (fun g hg => (ho1.lt g hg).1)
        have hk6 := Blk.below HP4.out hb6 hlp
        have hm6 := Blk.below HK4.out hb6 hla
        have q6 := Blk.cell hk6 2
        have r6 := Blk.frozen hk6 2
        have q61 := Blk.cell hm6 1
        have q7 := Blk.cell (hm6.far (p := ⟨pb, 2, none⟩) HNE.out (.slice Ab (k + (n - (k + 1))) cb)) 1
        simp only [List.getElem?_toArray, List.getElem?_cons_zero, List.getElem?_cons_succ] at q6 q61 q7
        refine hK.out _ _ (fun _ => ⟨q61, q6⟩) (fun hHeld => ?_)
        clear hK K
        have hHeld := hHeld (by decide)
        try simp only [Act.put, List.setIfInBounds_toArray, List.set_cons_zero, List.set_cons_succ]
        refine wpL_ready (rs := [18]) (by kernel_rfl) (by simp) ?_
        refine AllL.cons rfl (fun K hK => ?_) AllL.nil
        go_simp
        refine hK.out _ _ (fun _ => ⟨q61, q6⟩) (fun hHeld => ?_)
        clear hK K
        have hHeld := hHeld (by decide)
        try simp only [Act.put, List.setIfInBounds_toArray, List.set_cons_zero, List.set_cons_succ]
        refine wpL_ready (rs := [19]) (by kernel_rfl) (by simp) ?_
        refine AllL.cons rfl (fun K hK => ?_) AllL.nil
        go_simp
        refine hK.out _ _ (fun _ => ⟨q61, q6⟩) (fun hHeld => ?_)
        clear hK K
        have hHeld := hHeld (by decide)
        try simp only [Act.put, List.setIfInBounds_toArray, List.set_cons_zero, List.set_cons_succ]
        refine wpL_ready (rs := [20]) (by kernel_rfl) (by simp) ?_
        refine AllL.cons rfl (fun K hK => ?_) AllL.nil
        go_simp
        refine hK.out _ _ (fun _ => absurd rfl ‹_›) (fun hHeld => ?_)
        clear hK K
        try simp only [Act.put, List.setIfInBounds_toArray, List.set_cons_zero, List.set_cons_succ]
        refine wpL_done (by kernel_rfl) ?_ _

        have HF := Lib.hid (show Jo R B w0 (w6.setCell ⟨pb, 2, none⟩ (.slice Ab (k + (n - (k + 1))) cb)) qb pb room lost ((cutL l k).map Bs.z) lost (cutL l k) from by
          have h1 := HJ4.out.put (l' := cutL l k) (v := .slice Ab (k + (n - (k + 1))) cb) hb6 (by rw [bs_cut] at hob; rw [HE.out] at hob ⊢; exact hob) (in_cut HJ4.out.in_) HB4.out
          rw [cutL_map]
          exact h1)
        clear hob hgb hlb hb6 hk6 hb5w hk5 hm5 ho1 hb5
        go_wp2_with fail
        go_meet
        exact ⟨by simp, lost, _, HF.out, H0.out, by omega⟩
      | false =>
        have HT := Lib.hid (qtake_out HJ2.out.q HIB.out)
        have hc1 := HK2.out.cell 1
        simp only [List.getElem?_toArray, List.getElem?_cons_zero, List.getElem?_cons_succ] at hc1
        go_wp2_with fail
        refine HT.out.mono ?_
        rintro e w3 ⟨rfl, rfl⟩
        go_wp2_with fail
        go_quiet (fail)
        go_wp2_with fail
        go_meet
        exact ⟨by simp, lost, _, HJ2.out.drewN _ HB2.out, H0.out, by omega⟩
    case rest => as_aux_lemma =>
      obtain ⟨rfl, lost', l', hj, hl0, hl1⟩ := hcut
      obtain ⟨v1, p1, p2, _⟩ := hj.p.ex
      obtain ⟨A1, c1, rfl, _, _⟩ := own_slice p2
      have hp1 := p1.cell 1
      have hp2 := p1.cell 2
      simp only [List.getElem?_toArray, List.getElem?_cons_zero, List.getElem?_cons_succ] at hp1 hp2
      have HLq := Lib.hid (fun q => (qlen_any (hj.q.drewN q)).mono (R' := fun e w' => e = .returned (.int .i64 (l'.length : Int)) ∧ w' = wc.drewN q) (fun e w' he => ⟨by rw [he.1, List.length_map], he.2.symm⟩))
      have HLo := Lib.hid (fun q => (qlost_any (hj.q.drewN q)).mono (R' := fun e w' => e = .returned (.int .i64 lost') ∧ w' = wc.drewN q) (fun e w' he => ⟨he.1, he.2.symm⟩))
      have HFin := Lib.hid hj
      have HL0 := Lib.hid hl0
      have HL1 := Lib.hid hl1
      have HBc := Lib.hid (show B ≤ wc.heap.size from Nat.le_trans HBW.out hj.sz)
      clear hj hl0 hl1 p1 p2
      go_wp2_with fail
      go_quiet ((first | (go_at_call 13; exact Calls.quiet_of_same (HLq.out _)) | (go_at_call 14; exact Calls.quiet_of_same (HLo.out _))))
      go_wp2_with fail
      go_ret
      exact ⟨rfl, lost', l', HFin.out.drewN _ HBc.out, HL0.out, HL1.out⟩
end Go.Proofs.Ytpopchigboacaaa
