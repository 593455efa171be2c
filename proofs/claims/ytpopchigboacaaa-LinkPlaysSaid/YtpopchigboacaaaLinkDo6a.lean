/- The contract of the law's own do: one act at both: Move. -/
import Derived.Test.YtpopchigboacaaaLinkJo
import Derived.Test.YtpopchigboacaaaWithin
import Derived.Test.YtpopchigboacaaaSame
import Derived.Test.YtpopchigboacaaaCopy
import Derived.Test.YtpopchigboacaaaHeldLast
import Derived.Deep.RegionHeld3
import Derived.Deep.DeepCutAuto
import Derived.Deep.CutBlock
namespace Go.Proofs.Ytpopchigboacaaa
open Go.RowKit Go.Sort
set_option linter.unusedSimpArgs false
set_option linter.unusedVariables false

set_option maxHeartbeats 8000000 in
set_option maxRecDepth 100000 in
theorem do_6a {R : Nat → Prop} {B : Nat} {w0 w : World} {qb pb : Nat} {room lost : Int} {l : List Bs} (h : Jo R B w0 w qb pb room lost (l.map Bs.z) lost l) (h0 : 0 ≤ lost) (h1 : lost ≤ 1000000) (hB : B ≤ w.heap.size) (hB0 : B ≤ w0.heap.size) {x : Ac} (hv : x.dd % 7 = 6) (hp : hasB (l.map Bs.z) x.pt = true ∧ hasB (l.map Bs.z) x.kk = true) (hd : fit x.dd) (hb : Has w B x.A (u8s x.b)) (hy : ∀ y ∈ x.b, 0 ≤ y ∧ y ≤ 255) (hlen : x.b.length ≤ maxLen) (hn : x.A = none → x.c = 0) (hc : x.b.length ≤ x.c) :
    Calls Try.prog 19 #[.pointer (some ⟨qb, 0, none⟩), .pointer (some ⟨pb, 0, none⟩), .agg #[.int .i64 x.dd, .int .i64 x.pt, .int .i64 x.kk, .slice x.A x.b.length x.c]] w fun e w' => e = .returned (.bool true) ∧ ∃ lost' l', Jo R B w0 w' qb pb room lost' (l'.map Bs.z) lost' l' ∧ 0 ≤ lost' ∧ lost' ≤ lost + 1 := by
  have HJ := Lib.hid h
  have HBB := Lib.hid hB
  have HBW := Lib.hid hB0
  have HV := Lib.hid hv
  have HP := Lib.hid hp
  have HDD := Lib.hid hd
  have HXB := Lib.hid hb
  have HY := Lib.hid hy
  have HLN := Lib.hid hlen
  have HN := Lib.hid hn
  have HC := Lib.hid hc
  have H0 := Lib.hid h0
  have H1 := Lib.hid h1
  clear h h0 h1 hB hB0 hv hp hd hb hy hlen hn hc
  go_enter Try.func19, Try.ntmps19
  go_upto_region 1 with fail
  obtain ⟨H, hH⟩ : ∃ H, w.heap.size = H := ⟨_, rfl⟩
  have hb1 : Below w.heap.size w (w.alloc (.cells #[.int .i64 x.dd, .int .i64 x.pt, .int .i64 x.kk, .slice x.A x.b.length x.c] 45)) := (Below.refl _ _).alloc (Nat.le_refl _) _
  have hk1 := Blk.new w 45 #[.int .i64 x.dd, .int .i64 x.pt, .int .i64 x.kk, .slice x.A x.b.length x.c]
  obtain ⟨w1, hw1⟩ : ∃ w1, w.alloc (.cells #[.int .i64 x.dd, .int .i64 x.pt, .int .i64 x.kk, .slice x.A x.b.length x.c] 45) = w1 := ⟨_, rfl⟩
  have hj1 := HJ.out.below hb1 HBB.out
  have HRH := Lib.hid (show R H by rw [← hH]; exact HJ.out.new _ HJ.out.sz)
  have hx1 := HXB.out.below hb1 HBB.out
  have hB1 : B ≤ w1.heap.size := by rw [← hw1]; exact Nat.le_trans HBB.out hb1.size
  rw [hw1] at hk1 hj1 hx1 ⊢
  rw [hH] at hk1 ⊢
  have HK1 := Lib.hid hk1
  have HJ1 := Lib.hid hj1
  have HX1 := Lib.hid hx1
  have HB1 := Lib.hid hB1
  clear hb1 hk1 hw1 hj1 hx1 hB1 HJ HXB HBB
  go_cut [7] from 21 to 33 (fun s7 wx => s7 = .bool (hasB (l.map Bs.z) x.pt) ∧ ∃ m, wx = w1.drewN m)
  case first => as_aux_lemma =>
    obtain ⟨v, p1, p2, _⟩ := HJ1.out.p.ex
    obtain ⟨A, c, rfl, _, _⟩ := own_slice p2
    have hp := p1.cell 2
    have hc1 := HK1.out.cell 1
    simp only [List.getElem?_toArray, List.getElem?_cons_zero, List.getElem?_cons_succ] at hp hc1
    have HE := Lib.hid (hasB_map l x.pt)
    clear p1 p2
    by_cases h0 : 0 ≤ x.pt
    · have hd : decide (0 ≤ x.pt) = true := decide_eq_true h0
      go_quiet (fail)
      go_wp2_with fail
      go_meet
      exact ⟨by rw [HE.out, hd]; rfl, _, rfl⟩
    · have hd : decide (0 ≤ x.pt) = false := decide_eq_false h0
      go_quiet (fail)
      go_wp2_with fail
      go_meet
      exact ⟨by rw [HE.out, hd]; rfl, _, rfl⟩
  case rest => as_aux_lemma =>
    obtain ⟨rfl, m, rfl⟩ := hcut
    obtain ⟨w2, hw2⟩ : ∃ w2, w1.drewN m = w2 := ⟨_, rfl⟩
    have hk2 := HK1.out.drewN m
    have hj2 := HJ1.out.drewN m HB1.out
    have hx2 := HX1.out.drewN m
    have hB2 : B ≤ w2.heap.size := by rw [← hw2]; exact HB1.out
    rw [hw2] at hk2 hj2 hx2 ⊢
    have HK2 := Lib.hid hk2
    have HJ2 := Lib.hid hj2
    have HX2 := Lib.hid hx2
    have HB2 := Lib.hid hB2
    have hc0 := hk2.cell 0
    simp only [List.getElem?_toArray, List.getElem?_cons_zero, List.getElem?_cons_succ] at hc0
    clear hk2 hj2 hx2 hB2 HK1 HJ1 HX1 HB1 hw2
    obtain ⟨ib, hib⟩ : ∃ ib, hasB (l.map Bs.z) x.pt = ib := ⟨_, rfl⟩
    rw [hib] at ⊢
    have HIB := Lib.hid hib
    clear hib
    go_wp2_with fail
    have HW := Lib.hid (fun w => within_any x.dd 7 (by omega) (by omega) (wf_i64 HDD.out).1 (wf_i64 HDD.out).2 w)
    rw [HV.out] at HW
    clear hc0
    refine (HW.out _).mono ?_
    rintro e wv ⟨rfl, rfl⟩
    go_upto_block 0 with fail
    go_cut [8, 9, 10, 11, 12, 13, 14, 15, 16, 17, 18, 19, 20] from 37 to 309 (fun s8 s9 s10 s11 s12 s13 s14 s15 s16 s17 s18 s19 s20 wx => s8 = .bool true ∧ ∃ lost' l', Jo R B w0 wx qb pb room lost' (l'.map Bs.z) lost' l' ∧ 0 ≤ lost' ∧ lost' ≤ lost + 1)
    case first => as_aux_lemma =>
      cases ib with
      | true =>
        obtain ⟨k, hk, hkl⟩ := hasB_at HIB.out
        rw [List.length_map] at hkl
        have hkm : k < (l.map Bs.z).length := by simpa using hkl
        obtain ⟨y, hyk⟩ : ∃ y, l[k] = y := ⟨_, rfl⟩
        have hzk : (l.map Bs.z)[k] = y.z := by rw [List.getElem_map, hyk]
        have HYK := Lib.hid (show y ∈ l by rw [← hyk]; exact List.getElem_mem hkl)
        have HYE := Lib.hid hyk
        have HKL := Lib.hid hkl
        have HLR := Lib.hid (show l.length ≤ 256 by have h1 := HJ2.out.q.len; have h2 := HJ2.out.q.r2; rw [List.length_map] at h1; omega)
        have HK2 := hk ▸ HK2
        have hc1 := HK2.out.cell 1
        have hc2 := HK2.out.cell 2
        simp only [List.getElem?_toArray, List.getElem?_cons_zero, List.getElem?_cons_succ] at hc1 hc2

        obtain ⟨vp0, p10, p20, -⟩ := HJ2.out.p.ex
        obtain ⟨Ap0, cp0, rfl, -, -⟩ := own_slice p20
        have hp2 := p10.cell 2
        simp only [List.getElem?_toArray, List.getElem?_cons_zero, List.getElem?_cons_succ] at hp2
        obtain ⟨dt, hto, htl⟩ := hasB_at HP.out.2
        rw [List.length_map] at htl
        have HTO := Lib.hid htl
        rw [hto] at hc2
        have ht0 : decide (0 ≤ (dt : Int)) = true := decide_eq_true (by omega)
        have ht1 : decide ((dt : Int) < (l.length : Int)) = true := decide_eq_true (by omega)
        have HK2 := hto ▸ HK2
        clear hzk hyk hkm hk HIB p10 p20 hto
        go_wp2_with fail
        go_quiet (fail)
        have HT2 := Lib.hid (qmove_in (HJ2.out.q.drewN nq) (k := k) (dt := dt) (by simpa using HKL.out) (by simpa using HTO.out))
        have hz2 : (l.map Bs.z)[k]'(by simpa using HKL.out) = y.z := by rw [List.getElem_map, HYE.out]
        rw [hz2] at HT2
        clear hz2 hp2
        have HJ2n := Lib.hid (HJ2.out.drewN nq HB2.out)
        have HK2n := Lib.hid (HK2.out.drewN nq)
        go_wp2_with fail
        refine HT2.out.mono ?_
        rintro e w3 ⟨rfl, hq3, ht3⟩
        have hj3 := HJ2n.out.of_q (hq3.mono (fun k _ hk => Or.inl hk)) ht3
        have hk3 := ht3.blk HK2n.out (qz_blk HK2n.out (by decide) (by decide))
        have HB3 := Lib.hid (show B ≤ w3.heap.size from Nat.le_trans HB2.out ht3.size)

        obtain ⟨vp, p1, p2, -⟩ := hj3.p.ex
        obtain ⟨gp, cp, rfl, hnc, hcm, hgl, hce⟩ := own_bs p2 HKL.out
        have hye : l[k]'HKL.out = y := HYE.out
        rw [hye] at hce
        obtain ⟨n, hn⟩ : ∃ n, l.length = n := ⟨_, rfl⟩
        have hp2 := p1.cell 2
        have hp0 := p1.cell 0
        have ha1 := hk3.cell 1
        have ha2 := hk3.cell 2
        simp only [List.getElem?_toArray, List.getElem?_cons_zero, List.getElem?_cons_succ] at hp2 hp0 ha1 ha2
        have hy3 : y.In w3 B := hj3.in_ y HYK.out
        have HHas := Lib.hid (Has.own p2)
        have hkn : k < n := hn ▸ HKL.out
        have hwk : IntKind.i64.wrap ((k : Int) + 1) = (k : Int) + 1 := by have := HKL.out; have := HLR.out; rw [IntKind.wrap_i64]; omega
        have hn9 : n ≤ 256 := hn ▸ HLR.out
        have HNn := Lib.hid hn
        rw [hn] at p1 hp2 hnc

        have HY3 := Lib.hid hy3
        clear hq3 ht3 ht0 ht1 hc1 hc2
        go_wp2_with fail
        go_quiet (fail)
        go_wp2_with fail

        obtain ⟨w4, hw4⟩ : ∃ w4, w3.drewN nq = w4 := ⟨_, rfl⟩
        have hj4 := hj3.drewN nq HB3.out
        have hk4 := hk3.drewN nq
        have hp4 := p1.drewN nq
        have hhas4 : Has (w3.drewN nq) (w3.drewN nq).heap.size _ _ := HHas.out.drewN nq
        have hB4 : B ≤ (w3.drewN nq).heap.size := HB3.out
        rw [hw4] at hj4 hk4 hp4 hhas4 hB4 ⊢
        have HJ4 := Lib.hid hj4
        have HK4 := Lib.hid hk4
        have HP4 := Lib.hid hp4
        have HHas4 := Lib.hid hhas4
        have HB4 := Lib.hid hB4
        have hp2 := hp4.cell 2
        have ha1 := hk4.cell 1
        have ha2 := hk4.cell 2
        simp only [List.getElem?_toArray, List.getElem?_cons_zero, List.getElem?_cons_succ] at hp2 ha1 ha2
        clear hj4 hk4 hp4 hhas4 hB4 hw4

        have R1 := fun (w : World) => bslice_head (w := w) (some ⟨gp, 0, none⟩) (n := n) (c := cp) (k := k) (by omega)
        have R2 : ∀ w : World, (Instr.slice 40 (.slice (some ⟨gp, 0, none⟩) n cp) (some (.int .i64 ((k : Int) + 1))) none none).run Try.prog w = .ok (.slice (tailB (some ⟨gp, 0, none⟩) cp (k + 1)) (n - (k + 1)) (cp - (k + 1))) w := fun w => by
          rw [show ((k : Int) + 1) = ((k + 1 : Nat) : Int) by omega]
          exact bslice_tail (w := w) (some ⟨gp, 0, none⟩) (n := n) (c := cp) (k := k + 1) (by omega)
        obtain ⟨i0, hi, hx0, hx1, hx2⟩ := info_parts info_bs
        have HCp := Lib.hid (copy_bs (some ⟨gp, 0, none⟩) cp k w4.heap.size (l.take k) w4.drew (by rw [List.length_take]; have := HNn.out; omega) (by rw [List.length_take]; omega) ((has_head HHas4.out k).drew) (fun e => nomatch e))
        have HTl := Lib.hid (has_tailB (k := k + 1) HHas4.out (show l.length ≤ cp by have := HNn.out; omega))
        have HTn := Lib.hid (fun e => tailB_none (A := some ⟨gp, 0, none⟩) (c := cp) (k := k + 1) (fun e => nomatch e) e)
        have HT1 := Lib.hid (bs_one (l.drop (k + 1)))
        have HTL := Lib.hid (show (bsV (l.drop (k + 1))).length = n - (k + 1) by rw [bs_len, List.length_drop, HNn.out])
        have HM1 := Lib.hid (show k + (n - (k + 1)) ≤ maxLen by unfold maxLen; omega)
        have HM2 := Lib.hid (show (k + (n - (k + 1))) * 24 ≤ 140737488355328 by omega)
        have HE := Lib.hid (show k + (n - (k + 1)) = (cutL l k).length by rw [cutL_len HKL.out, HNn.out]; omega)
        have HNE := Lib.hid (show H ≠ pb from Blk.ne_ HK4.out HP4.out (by decide))
        have hlp := HP4.out.lt
        have hla := HK4.out.lt
        clear hnc hce hy3 hp0 hj3 hk3 p1 p2 hcm hye hn hgl

        go_region_held3 (fun w' => w'.cell? ⟨H, 1, none⟩ = some (.int .i64 k) ∧ w'.cell? ⟨pb, 2, none⟩ = some (.slice (some ⟨gp, 0, none⟩) n cp)) (first | exact ⟨ha1, hp2⟩ | exact ⟨q1, q2⟩ | exact ⟨q61, q6⟩)
          (first
          | (go_at_call 22
             refine HCp.out.mono ?_
             rintro e w5 ⟨v1, rfl, ho1, hb5⟩
             obtain ⟨A1, c1, rfl, -, -⟩ := own_slice ho1
             have hb5w : Below w4.heap.size w4 w5 := (Below.refl _ w4).drew.trans hb5
             have hk5 := Blk.below HP4.out hb5w hlp
             have hm5 := Blk.below HK4.out hb5w hla
             have q2 := Blk.cell hk5 2
             have q1 := Blk.cell hm5 1
             simp only [List.getElem?_toArray, List.getElem?_cons_zero, List.getElem?_cons_succ] at q2 q1)
          | (refine step_app (w := w5) rfl (.tmp 77) (.tmp 85) 40 rfl w4.drew.heap.size 27 i0 (.slice none 0 0) 24 Try.underlying40 hi hx0 hx1 hx2 rfl (.slice A1 k c1) k (bsV (l.take k)) rfl ho1 w4.heap.size (tailB (some ⟨gp, 0, none⟩) cp (k + 1)) (n - (k + 1)) (cp - (k + 1)) (bsV (l.drop (k + 1))) rfl HTL.out (HTl.out.below hb5w (Nat.le_refl _)) HTn.out HT1.out HM1.out HM2.out hb5.size ?_
             intro vb w6 hob hgb hlb
             obtain ⟨Ab, cb, rfl, -, -⟩ := own_slice hob
             have hb6 : Below w4.heap.size w4 w6 := hb5w.grown hgb hb5w.size (fun g hg => (ho1.lt g hg).1)
             have hk6 := Blk.below HP4.out hb6 hlp
             have hm6 := Blk.below HK4.out hb6 hla
             have q6 := Blk.cell hk6 2
             have r6 := Blk.frozen hk6 2
             have q61 := Blk.cell hm6 1
             have q7 := Blk.cell (hm6.far (p := ⟨pb, 2, none⟩) HNE.out (.slice Ab (k + (n - (k + 1))) cb)) 1
             simp only [List.getElem?_toArray, List.getElem?_cons_zero, List.getElem?_cons_succ] at q6 q61 q7))

        rw [bs_cut] at hob
        have htn : dt ≤ k + (n - (k + 1)) := by have := HTO.out; have := HNn.out; omega
        have hJ7 := HJ4.out.below hb6 HB4.out
        have HJ7 := Lib.hid hJ7
        have HB7 := Lib.hid (Nat.le_trans HB4.out hb6.size)
        have HY7 := Lib.hid ((HY3.out).kept ((Turn.refl (fun _ => False) w3).drewN nq) (fun _ _ => id))
        have HK7 := Lib.hid hm6
        have HP7 := Lib.hid hk6
        have HO7 := Lib.hid hob
        obtain ⟨n2, hn2⟩ : ∃ n2, k + (n - (k + 1)) = n2 := ⟨_, rfl⟩
        rw [hn2] at HE HO7 htn hob ⊢
        have hcb := own_slice hob
        have hA2 := own_noneB hob
        have hhas7 := Has.own hob
        obtain ⟨hcb1, hcb2⟩ : n2 ≤ cb ∧ cb ≤ maxLen := by
          obtain ⟨_, _, hv, h1, h2⟩ := hcb
          injection hv with _ _ h3
          subst h3
          exact ⟨h1, h2⟩
        have hl2 : (cutL l k).length = n2 := HE.out.symm
        have H9 := Lib.hid (show n2 ≤ 256 by rw [← hn2]; omega)
        obtain ⟨L2, hL2⟩ : ∃ L2, cutL l k = L2 := ⟨_, rfl⟩
        have HIN := Lib.hid (show ∀ x ∈ putL L2 dt y, x.In w4 B from by
          intro x hx
          rw [← hL2] at hx
          unfold putL at hx
          have hy4 : y.In w4 B := HJ4.out.in_ y HYK.out
          rcases List.mem_append.1 hx with hx | hx
          · rcases List.mem_append.1 hx with hx | hx
            · exact in_cut HJ4.out.in_ x (List.mem_of_mem_take hx)
            · rw [List.mem_singleton.1 hx]; exact hy4
          · exact in_cut HJ4.out.in_ x (List.mem_of_mem_drop hx))
        have HPUT := Lib.hid (show (putL L2 dt y).map Bs.z = putL (cutL (l.map Bs.z) k) dt y.z by rw [putL_map, ← hL2, cutL_map])
        rw [hL2] at hhas7 hl2 hob
        have hHH := Lib.hid hhas7
        have HL2 := Lib.hid hl2
        have q62 := Blk.cell hm6 2
        simp only [List.getElem?_toArray, List.getElem?_cons_zero, List.getElem?_cons_succ] at q62
        have R3 := fun (w : World) => bslice_head (w := w) Ab (n := n2) (c := cb) (k := dt) (by omega)
        have R4 := fun (w : World) => bslice_tail (w := w) Ab (n := n2) (c := cb) (k := dt) htn
        have HCq := Lib.hid (fun (W : World) (hh : Has W w6.heap.size Ab (bsV L2)) => copy_bs Ab cb dt w6.heap.size (L2.take dt) W (by rw [List.length_take]; have := HL2.out; omega) (by rw [List.length_take]; have := H9.out; omega) (has_head hh dt) hA2)
        have HHd := Lib.hid (show Has w6.drew w6.heap.size Ab (bsV L2) from hhas7.drew)
        have HHa := Lib.hid (show Has (w6.drew.alloc (.cells #[.slice y.A y.z.length y.c] 27)) w6.heap.size Ab (bsV L2) from hhas7.drew.below ((Below.refl _ w6.drew).alloc (Nat.le_refl _) _) (Nat.le_refl _))
        have HM3 := Lib.hid (show dt + 1 ≤ maxLen by unfold maxLen; have := H9.out; omega)
        have HM4 := Lib.hid (show (dt + 1) * 24 ≤ 140737488355328 by have := H9.out; omega)
        have HM5 := Lib.hid (show dt + 1 + (n2 - dt) ≤ maxLen by unfold maxLen; have := H9.out; omega)
        have HM6 := Lib.hid (show (dt + 1 + (n2 - dt)) * 24 ≤ 140737488355328 by have := H9.out; omega)
        have HOne := Lib.hid (show ∀ u ∈ [Value.slice y.A y.z.length y.c], u.oneCell' = true by simp; rfl)
        have HTl2 := Lib.hid (fun (W : World) (hh : Has W w6.heap.size Ab (bsV L2)) => has_tailB (k := dt) hh (show L2.length ≤ cb by have := HL2.out; omega))
        have HTn2 := Lib.hid (fun e => tailB_none (A := Ab) (c := cb) (k := dt) hA2 e)
        have HT2b := Lib.hid (bs_one (L2.drop dt))
        have HTL2 := Lib.hid (show (bsV (L2.drop dt)).length = n2 - dt by rw [bs_len, List.length_drop, HL2.out])
        have HN2 := Lib.hid hn2
        have HL2e := Lib.hid hL2
        have HB6w := Lib.hid hb6
        have hlp6 := hk6.lt
        have hla6 := hm6.lt
        clear R1 R2 HCp HTl HTn HT1 HTL HM1 HM2 hgb hlb hk6 hm6 hb5w hk5 hm5 ho1 hb5 hob HO7 q1 q2 q6 r6 q61 q7 ha1 ha2 hp2 hJ7 hcb hA2 hhas7 hl2 hL2 hn2 hlp hla hb6
        go_wp2_with fail
        go_region_held3 (fun w' => w'.cell? ⟨H, 2, none⟩ = some (.int .i64 dt)) (first | exact q62 | exact s1 | exact s1a | exact s62 | exact s82 | exact s92 | go_keep)
          (first
          | (go_at_call 22
             with_reducible refine (HCq.out w6.drew HHd.out).mono ?_
             rintro e w7 ⟨v1, rfl, ho1, hb7⟩
             obtain ⟨A1, c1, rfl, -, -⟩ := own_slice ho1
             have hb7w : Below w6.heap.size w6 w7 := (Below.refl _ w6).drew.trans hb7
             have hm7 := Blk.below HK7.out hb7w hla6
             have s1 := Blk.cell hm7 2
             have s1a := Blk.cell (hm7.alloc (.cells #[.slice y.A y.z.length y.c] 27)) 2
             simp only [List.getElem?_toArray, List.getElem?_cons_zero, List.getElem?_cons_succ] at s1 s1a
             have ho7 := World.ownsRow.alloc ho1 (.cells #[.slice y.A y.z.length y.c] 27)
             have hn7 : Has (w7.alloc (.cells #[.slice y.A y.z.length y.c] 27)) (w7.heap.size + 1) (some ⟨w7.heap.size, 0, none⟩) [.slice y.A y.z.length y.c] := Has.fresh w7 #[.slice y.A y.z.length y.c] 27
             have hb7a : Below w6.heap.size w6 (w7.alloc (.cells #[.slice y.A y.z.length y.c] 27)) := hb7w.alloc hb7w.size _)
          | (go_at_call 22
             refine (HCq.out (w6.drew.alloc (.cells #[.slice y.A y.z.length y.c] 27)) HHa.out).mono ?_
             rintro e w7 ⟨v1, rfl, ho1, hb7⟩
             obtain ⟨A1, c1, rfl, -, -⟩ := own_slice ho1
             have hb7w : Below w6.heap.size w6 w7 := ((Below.refl _ w6).drew.alloc (Nat.le_refl _) _).trans (hb7.mono (by simp))
             have hm7 := Blk.below HK7.out hb7w hla6
             have s1 := Blk.cell hm7 2
             simp only [List.getElem?_toArray, List.getElem?_cons_zero, List.getElem?_cons_succ] at s1
             have hn7b : Has w7 w7.heap.size (some ⟨w6.heap.size, 0, none⟩) [.slice y.A y.z.length y.c] := ((Has.fresh w6.drew #[.slice y.A y.z.length y.c] 27).tight.below hb7 (Nat.le_refl _)).tight)
          | (refine step_app (w := w7.alloc (.cells #[.slice y.A y.z.length y.c] 27)) rfl (.tmp 92) (.tmp 94) 40 rfl w6.drew.heap.size 27 i0 (.slice none 0 0) 24 Try.underlying40 hi hx0 hx1 hx2 rfl (.slice A1 dt c1) dt (bsV (L2.take dt)) rfl ho7 _ (some ⟨w7.heap.size, 0, none⟩) 1 1 [.slice y.A y.z.length y.c] rfl rfl hn7 (fun h => nomatch h) HOne.out HM3.out HM4.out hb7a.size ?_
             intro vb w8 hob0 hgb hlb
             have ho8 := own_low hob0 (show w6.heap.size ≤ w6.drew.heap.size from Nat.le_refl _)
             obtain ⟨A8, c8, rfl, -, -⟩ := own_slice ho8
             have hb8 : Below w6.heap.size w6 w8 := hb7a.grown hgb hb7a.size (fun g hg => (ho1.lt g hg).1)
             have hm8 := Blk.below HK7.out hb8 hla6
             have s62 := Blk.cell hm8 2
             simp only [List.getElem?_toArray, List.getElem?_cons_zero, List.getElem?_cons_succ] at s62)
          | (refine step_app (w := w7) rfl (.tmp 92) (.tmp 94) 40 rfl (w6.drew.alloc (.cells #[.slice y.A y.z.length y.c] 27)).heap.size 27 i0 (.slice none 0 0) 24 Try.underlying40 hi hx0 hx1 hx2 rfl (.slice A1 dt c1) dt (bsV (L2.take dt)) rfl ho1 _ (some ⟨w6.heap.size, 0, none⟩) 1 1 [.slice y.A y.z.length y.c] rfl rfl hn7b (fun h => nomatch h) HOne.out HM3.out HM4.out hb7.size ?_
             intro vb w8 hob0 hgb hlb
             have ho8 := own_low hob0 (show w6.heap.size ≤ (w6.drew.alloc (.cells #[.slice y.A y.z.length y.c] 27)).heap.size by simp)
             obtain ⟨A8, c8, rfl, -, -⟩ := own_slice ho8
             have hb8 : Below w6.heap.size w6 w8 := hb7w.grown hgb hb7w.size (fun g hg => Nat.le_trans (show w6.heap.size ≤ (w6.drew.alloc (.cells #[.slice y.A y.z.length y.c] 27)).heap.size by simp) (ho1.lt g hg).1)
             have hm8 := Blk.below HK7.out hb8 hla6
             have s62 := Blk.cell hm8 2
             simp only [List.getElem?_toArray, List.getElem?_cons_zero, List.getElem?_cons_succ] at s62)
          | (refine step_app (w := w8) rfl (.tmp 95) (.tmp 99) 40 rfl w6.heap.size 27 i0 (.slice none 0 0) 24 Try.underlying40 hi hx0 hx1 hx2 rfl (.slice A8 (dt + 1) c8) (dt + 1) (bsV (L2.take dt) ++ [.slice y.A y.z.length y.c]) rfl ho8 w6.heap.size (tailB Ab cb dt) (n2 - dt) (cb - dt) (bsV (L2.drop dt)) rfl HTL2.out (HTl2.out w8 (hHH.out.below hb8 (Nat.le_refl _))) HTn2.out HT2b.out HM5.out HM6.out hb8.size ?_
             intro vc w9 hoc hgc hlc
             obtain ⟨Ac, cc, rfl, -, -⟩ := own_slice hoc
             have hb9 : Below w6.heap.size w6 w9 := hb8.grown hgc hb8.size (fun g hg => (ho8.lt g hg).1)
             have hk9 := Blk.below HP7.out hb9 hlp6
             have hm9 := Blk.below HK7.out hb9 hla6
             have s9 := Blk.cell hk9 2
             have r9 := Blk.frozen hk9 2
             have s82 := Blk.cell hm9 2
             have s92 := Blk.cell (hm9.far (p := ⟨pb, 2, none⟩) HNE.out (.slice Ac (dt + 1 + (n2 - dt)) cc)) 2
             simp only [List.getElem?_toArray, List.getElem?_cons_zero, List.getElem?_cons_succ] at s9 s82 s92))
        all_goals
          have HF := Lib.hid (show Jo R B w0 (w9.setCell ⟨pb, 2, none⟩ (.slice Ac (dt + 1 + (n2 - dt)) cc)) qb pb room lost ((putL L2 dt y).map Bs.z) lost (putL L2 dt y) from by
            have hlen : (putL L2 dt y).length = dt + 1 + (n2 - dt) := by rw [putL_len (by rw [HL2.out]; omega), HL2.out]; omega
            have hcat : bsV (L2.take dt) ++ [Value.slice y.A y.z.length y.c] ++ bsV (L2.drop dt) = bsV (putL L2 dt y) := by simp [bsV, putL, Bs.val, List.map_take, List.map_drop]
            have h1 := HJ4.out.put (l' := putL L2 dt y) (v := .slice Ac (dt + 1 + (n2 - dt)) cc) (HB6w.out.trans (hb9.mono HB6w.out.size)) (by rw [hcat] at hoc; rw [hlen]; exact own_low hoc HB6w.out.size) HIN.out HB4.out
            rw [HPUT.out]
            exact h1)
          clear hoc hob0 hgb hlb hgc hlc hb9 hk9 hm9 hb8 hm8 ho8 hb7w hm7 ho1 hb7
          go_wp2_with fail
          go_meet
          exact ⟨by simp, lost, _, HF.out, H0.out, by omega⟩
      | false => exact absurd HIB.out (by rw [HP.out.1]; simp)
    case rest => as_aux_lemma =>
      obtain ⟨rfl, lost', l', hj, hl0, hl1⟩ := hcut
      obtain ⟨v1, p1, p2, _⟩ := hj.p.ex
      obtain ⟨A1, c1, rfl, _, _⟩ := own_slice p2
      have hp1 := p1.cell 1
      have hp2 := p1.cell 2
      simp only [List.getElem?_toArray, List.getElem?_cons_zero, List.getElem?_cons_succ] at hp1 hp2
      have HLq := Lib.hid (fun q => (qlen_any (hj.q.drewN q)).mono (R' := fun e w' => e = .returned (.int .i64 (l'.length : Int)) ∧ w' = wc.drewN q) (fun e w' he => ⟨by rw [he.1, List.length_map], he.2.symm⟩))
      have HLo := Lib.hid (fun q => (qlost_any (hj.q.drewN q)).mono (R' := fun e w' => e = .returned (.int .i64 lost') ∧ w' = wc.drewN q) (fun e w' he => ⟨he.1, he.2.symm⟩))
      have HFin := Lib.hid hj
      have HL0 := Lib.hid hl0
      have HL1 := Lib.hid hl1
      have HBc := Lib.hid (show B ≤ wc.heap.size from Nat.le_trans HBW.out hj.sz)
      clear hj hl0 hl1 p1 p2
      go_wp2_with fail
      go_quiet ((first | (go_at_call 13; exact Calls.quiet_of_same (HLq.out _)) | (go_at_call 14; exact Calls.quiet_of_same (HLo.out _))))
      go_wp2_with fail
      go_ret
      exact ⟨rfl, lost', l', HFin.out.drewN _ HBc.out, HL0.out, HL1.out⟩
end Go.Proofs.Ytpopchigboacaaa
