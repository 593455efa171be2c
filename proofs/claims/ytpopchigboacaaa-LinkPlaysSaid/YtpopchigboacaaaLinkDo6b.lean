/- The contract of the law's own do: one act at both: Move of none, or to nowhere. -/
import Derived.Test.YtpopchigboacaaaLinkJo
import Derived.Test.YtpopchigboacaaaWithin
import Derived.Test.YtpopchigboacaaaSame
import Derived.Test.YtpopchigboacaaaCopy
import Derived.Test.YtpopchigboacaaaHeldLast
import Derived.Deep.RegionHeld3
import Derived.Deep.DeepCutAuto
import Derived.Deep.CutBlock
namespace Go.Proofs.Ytpopchigboacaaa
open Go.RowKit Go.Sort
set_option linter.unusedSimpArgs false
set_option linter.unusedVariables false

set_option maxHeartbeats 8000000 in
set_option maxRecDepth 100000 in
theorem do_6b {R : Nat → Prop} {B : Nat} {w0 w : World} {qb pb : Nat} {room lost : Int} {l : List Bs} (h : Jo R B w0 w qb pb room lost (l.map Bs.z) lost l) (h0 : 0 ≤ lost) (h1 : lost ≤ 1000000) (hB : B ≤ w.heap.size) (hB0 : B ≤ w0.heap.size) {x : Ac} (hv : x.dd % 7 = 6) (hp : ¬ (hasB (l.map Bs.z) x.pt = true ∧ hasB (l.map Bs.z) x.kk = true)) (hd : fit x.dd) (hb : Has w B x.A (u8s x.b)) (hy : ∀ y ∈ x.b, 0 ≤ y ∧ y ≤ 255) (hlen : x.b.length ≤ maxLen) (hn : x.A = none → x.c = 0) (hc : x.b.length ≤ x.c) :
    Calls Try.prog 19 #[.pointer (some ⟨qb, 0, none⟩), .pointer (some ⟨pb, 0, none⟩), .agg #[.int .i64 x.dd, .int .i64 x.pt, .int .i64 x.kk, .slice x.A x.b.length x.c]] w fun e w' => e = .returned (.bool true) ∧ ∃ lost' l', Jo R B w0 w' qb pb room lost' (l'.map Bs.z) lost' l' ∧ 0 ≤ lost' ∧ lost' ≤ lost + 1 := by
  have HJ := Lib.hid h
  have HBB := Lib.hid hB
  have HBW := Lib.hid hB0
  have HV := Lib.hid hv
  have HP := Lib.hid hp
  have HDD := Lib.hid hd
  have HXB := Lib.hid hb
  have HY := Lib.hid hy
  have HLN := Lib.hid hlen
  have HN := Lib.hid hn
  have HC := Lib.hid hc
  have H0 := Lib.hid h0
  have H1 := Lib.hid h1
  clear h h0 h1 hB hB0 hv hp hd hb hy hlen hn hc
  go_enter Try.func19, Try.ntmps19
  go_upto_region 1 with fail
  obtain ⟨H, hH⟩ : ∃ H, w.heap.size = H := ⟨_, rfl⟩
  have hb1 : Below w.heap.size w (w.alloc (.cells #[.int .i64 x.dd, .int .i64 x.pt, .int .i64 x.kk, .slice x.A x.b.length x.c] 45)) := (Below.refl _ _).alloc (Nat.le_refl _) _
  have hk1 := Blk.new w 45 #[.int .i64 x.dd, .int .i64 x.pt, .int .i64 x.kk, .slice x.A x.b.length x.c]
  obtain ⟨w1, hw1⟩ : ∃ w1, w.alloc (.cells #[.int .i64 x.dd, .int .i64 x.pt, .int .i64 x.kk, .slice x.A x.b.length x.c] 45) = w1 := ⟨_, rfl⟩
  have hj1 := HJ.out.below hb1 HBB.out
  have HRH := Lib.hid (show R H by rw [← hH]; exact HJ.out.new _ HJ.out.sz)
  have hx1 := HXB.out.below hb1 HBB.out
  have hB1 : B ≤ w1.heap.size := by rw [← hw1]; exact Nat.le_trans HBB.out hb1.size
  rw [hw1] at hk1 hj1 hx1 ⊢
  rw [hH] at hk1 ⊢
  have HK1 := Lib.hid hk1
  have HJ1 := Lib.hid hj1
  have HX1 := Lib.hid hx1
  have HB1 := Lib.hid hB1
  clear hb1 hk1 hw1 hj1 hx1 hB1 HJ HXB HBB
  go_cut [7] from 21 to 33 (fun s7 wx => s7 = .bool (hasB (l.map Bs.z) x.pt) ∧ ∃ m, wx = w1.drewN m)
  case first => as_aux_lemma =>
    obtain ⟨v, p1, p2, _⟩ := HJ1.out.p.ex
    obtain ⟨A, c, rfl, _, _⟩ := own_slice p2
    have hp := p1.cell 2
    have hc1 := HK1.out.cell 1
    simp only [List.getElem?_toArray, List.getElem?_cons_zero, List.getElem?_cons_succ] at hp hc1
    have HE := Lib.hid (hasB_map l x.pt)
    clear p1 p2
    by_cases h0 : 0 ≤ x.pt
    · have hd : decide (0 ≤ x.pt) = true := decide_eq_true h0
      go_quiet (fail)
      go_wp2_with fail
      go_meet
      exact ⟨by rw [HE.out, hd]; rfl, _, rfl⟩
    · have hd : decide (0 ≤ x.pt) = false := decide_eq_false h0
      go_quiet (fail)
      go_wp2_with fail
      go_meet
      exact ⟨by rw [HE.out, hd]; rfl, _, rfl⟩
  case rest => as_aux_lemma =>
    obtain ⟨rfl, m, rfl⟩ := hcut
    obtain ⟨w2, hw2⟩ : ∃ w2, w1.drewN m = w2 := ⟨_, rfl⟩
    have hk2 := HK1.out.drewN m
    have hj2 := HJ1.out.drewN m HB1.out
    have hx2 := HX1.out.drewN m
    have hB2 : B ≤ w2.heap.size := by rw [← hw2]; exact HB1.out
    rw [hw2] at hk2 hj2 hx2 ⊢
    have HK2 := Lib.hid hk2
    have HJ2 := Lib.hid hj2
    have HX2 := Lib.hid hx2
    have HB2 := Lib.hid hB2
    have hc0 := hk2.cell 0
    simp only [List.getElem?_toArray, List.getElem?_cons_zero, List.getElem?_cons_succ] at hc0
    clear hk2 hj2 hx2 hB2 HK1 HJ1 HX1 HB1 hw2
    obtain ⟨ib, hib⟩ : ∃ ib, hasB (l.map Bs.z) x.pt = ib := ⟨_, rfl⟩
    rw [hib] at ⊢
    have HIB := Lib.hid hib
    clear hib
    go_wp2_with fail
    have HW := Lib.hid (fun w => within_any x.dd 7 (by omega) (by omega) (wf_i64 HDD.out).1 (wf_i64 HDD.out).2 w)
    rw [HV.out] at HW
    clear hc0
    refine (HW.out _).mono ?_
    rintro e wv ⟨rfl, rfl⟩
    go_upto_block 0 with fail
    go_cut [8, 9, 10, 11, 12, 13, 14, 15, 16, 17, 18, 19, 20] from 37 to 309 (fun s8 s9 s10 s11 s12 s13 s14 s15 s16 s17 s18 s19 s20 wx => s8 = .bool true ∧ ∃ lost' l', Jo R B w0 wx qb pb room lost' (l'.map Bs.z) lost' l' ∧ 0 ≤ lost' ∧ lost' ≤ lost + 1)
    case first => as_aux_lemma =>
      have hc1 := HK2.out.cell 1
      have hc2 := HK2.out.cell 2
      simp only [List.getElem?_toArray, List.getElem?_cons_zero, List.getElem?_cons_succ] at hc1 hc2
      obtain ⟨vp0, p10, p20, -⟩ := HJ2.out.p.ex
      obtain ⟨Ap0, cp0, rfl, -, -⟩ := own_slice p20
      have hp2 := p10.cell 2
      simp only [List.getElem?_toArray, List.getElem?_cons_zero, List.getElem?_cons_succ] at hp2
      have HT2 := Lib.hid (fun m => qmove_out (HJ2.out.q.drewN m) (k := x.pt) (dt := x.kk) (by
        have h1 := HP.out
        rcases Bool.eq_false_or_eq_true (hasB (l.map Bs.z) x.pt) with h | h
        · rcases Bool.eq_false_or_eq_true (hasB (l.map Bs.z) x.kk) with h' | h'
          · exact absurd ⟨h, h'⟩ h1
          · exact Or.inr h'
        · exact Or.inl h))
      clear p10 p20
      cases ib with
      | true =>
        have hk : hasB (l.map Bs.z) x.kk = false := by
          rcases Bool.eq_false_or_eq_true (hasB (l.map Bs.z) x.kk) with h' | h'
          · exact absurd ⟨HIB.out, h'⟩ HP.out
          · exact h'
        rw [hasB_map] at hk
        by_cases h0 : 0 ≤ x.kk
        · have hd : decide (0 ≤ x.kk) = true := decide_eq_true h0
          rw [hd, Bool.true_and] at hk
          go_wp2_with fail
          go_quiet (fail)
          go_wp2_with fail
          refine (HT2.out _).mono ?_
          rintro e w3 ⟨rfl, rfl⟩
          go_wp2_with fail
          go_meet
          exact ⟨by simp, lost, _, HJ2.out.drewN _ HB2.out, H0.out, by omega⟩
        · have hd : decide (0 ≤ x.kk) = false := decide_eq_false h0
          go_wp2_with fail
          go_quiet (fail)
          go_wp2_with fail
          refine (HT2.out _).mono ?_
          rintro e w3 ⟨rfl, rfl⟩
          go_wp2_with fail
          go_meet
          exact ⟨by simp, lost, _, HJ2.out.drewN _ HB2.out, H0.out, by omega⟩
      | false =>
        go_wp2_with fail
        go_quiet (fail)
        go_wp2_with fail
        refine (HT2.out _).mono ?_
        rintro e w3 ⟨rfl, rfl⟩
        go_wp2_with fail
        go_meet
        exact ⟨by simp, lost, _, HJ2.out.drewN _ HB2.out, H0.out, by omega⟩
    case rest => as_aux_lemma =>
      obtain ⟨rfl, lost', l', hj, hl0, hl1⟩ := hcut
      obtain ⟨v1, p1, p2, _⟩ := hj.p.ex
      obtain ⟨A1, c1, rfl, _, _⟩ := own_slice p2
      have hp1 := p1.cell 1
      have hp2 := p1.cell 2
      simp only [List.getElem?_toArray, List.getElem?_cons_zero, List.getElem?_cons_succ] at hp1 hp2
      have HLq := Lib.hid (fun q => (qlen_any (hj.q.drewN q)).mono (R' := fun e w' => e = .returned (.int .i64 (l'.length : Int)) ∧ w' = wc.drewN q) (fun e w' he => ⟨by rw [he.1, List.length_map], he.2.symm⟩))
      have HLo := Lib.hid (fun q => (qlost_any (hj.q.drewN q)).mono (R' := fun e w' => e = .returned (.int .i64 lost') ∧ w' = wc.drewN q) (fun e w' he => ⟨he.1, he.2.symm⟩))
      have HFin := Lib.hid hj
      have HL0 := Lib.hid hl0
      have HL1 := Lib.hid hl1
      have HBc := Lib.hid (show B ≤ wc.heap.size from Nat.le_trans HBW.out hj.sz)
      clear hj hl0 hl1 p1 p2
      go_wp2_with fail
      go_quiet ((first | (go_at_call 13; exact Calls.quiet_of_same (HLq.out _)) | (go_at_call 14; exact Calls.quiet_of_same (HLo.out _))))
      go_wp2_with fail
      go_ret
      exact ⟨rfl, lost', l', HFin.out.drewN _ HBc.out, HL0.out, HL1.out⟩
end Go.Proofs.Ytpopchigboacaaa
