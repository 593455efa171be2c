/- psephoslaw09's do at an act of kind L. (Printed by tools/do9.py.) -/
import Derived.Test.YtdljbmjjdjbopaaDo9
import Derived.Test.YtdljbmjjdjbopaaWithin
import Derived.Test.YtdljbmjjdjbopaaHeldLast2
import Derived.Deep.RegionHeld3
import Derived.Deep.DeepCutAuto
import Derived.Deep.CutBlock
namespace Go.Proofs.Ytdljbmjjdjbopaa
open Go.RowKit Go.Maps Go.Sort
set_option linter.unusedSimpArgs false
set_option linter.unusedVariables false

set_option maxHeartbeats 8000000 in
set_option maxRecDepth 100000 in
theorem do9_L {w0 w : World} {cb bm pb N : Nat} {now : Int} {S : Ts} {L : List (Int × Int)} {dd id n : Int} {v : Int} (h : Jp w0 cb bm pb now N S L w) (hN : N ≤ 900000) (hn0 : 0 ≤ now) (hn1 : now ≤ 900000) (hd : fit dd) (hi : fit id) (hn : fit n) (hv : dd % 8 = v) (hk : v = 6) :
    Calls Try.prog 17 #[.pointer (some ⟨cb, 0, none⟩), .pointer (some ⟨pb, 0, none⟩), .agg #[.int .i64 dd, .int .i64 id, .int .i64 n]] w fun e w' => e = .returned (.bool true) ∧ Did w0 cb bm pb now N w w' := by
  have HJ := Lib.hid h
  have HN := Lib.hid hN
  have HId := Lib.hid hi
  have HNn := Lib.hid hn
  have KW := Lib.hid (fun w => within_any dd 8 (by omega) (by omega) (wf_i64 hd).1 (wf_i64 hd).2 w)
  rw [hv] at KW
  clear h hN hd hi hn hv
  go_enter Try.func17, Try.ntmps17
  go_upto_region 1 with fail
  obtain ⟨H, hH⟩ : ∃ H, w.heap.size = H := ⟨_, rfl⟩
  have hb1 : Below w.heap.size w (w.alloc (.cells #[.int .i64 dd, .int .i64 id, .int .i64 n] 43)) := (Below.refl _ _).alloc (Nat.le_refl _) _
  have hk1 := Blk.new w 43 #[.int .i64 dd, .int .i64 id, .int .i64 n]
  obtain ⟨w1, hw1⟩ : ∃ w1, w.alloc (.cells #[.int .i64 dd, .int .i64 id, .int .i64 n] 43) = w1 := ⟨_, rfl⟩
  have hj1 := HJ.out.below hb1
  rw [hw1] at hk1 hj1 hb1 ⊢
  rw [hH] at hk1 ⊢
  have HK1 := Lib.hid hk1
  have HJ1 := Lib.hid hj1
  have HT1 := Lib.hid (show Turn (fun k => k = cb ∨ k = bm ∨ k = pb) w w1 from Turn.of_below hb1)
  have HHs := Lib.hid (show w.heap.size ≤ H by omega)
  have HL9 := Lib.hid (show L.length ≤ 900000 by have := HJ.out.len; have := HN.out; omega)
  have ha0 := hk1.cell 0
  have ha1 := hk1.cell 1
  have ha2 := hk1.cell 2
  simp only [List.getElem?_toArray, List.getElem?_cons_zero, List.getElem?_cons_succ] at ha0 ha1 ha2
  clear hb1 hk1 hw1 hj1 HJ hH
  go_wp2_with fail
  refine (pfind_any HJ1.out.pl (by have := HL9.out; omega) id).mono ?_
  rintro e u1 ⟨r, rfl, hr, rfl⟩
  have HR := Lib.hid hr
  clear hr
  go_wp2_with fail
  refine (KW.out _).mono ?_
  rintro e u1 ⟨rfl, rfl⟩
  subst hk
  rcases HR.out with ⟨rfl, hno⟩ | ⟨i, rfl, hi⟩
  · have HSn := Lib.hid (HJ1.out.tl.off hno)
    clear hno
    go_wp2_with fail
    refine (left_off HJ1.out.cs.ck HId.out HSn.out).mono ?_
    rintro e w3 ⟨rfl, rfl⟩
    go_wp2_with fail
    go_big_quiet (fail)
    go_wp2_with fail
    have HX := Lib.hid (HJ1.out.drewN nq)
    have HTx := Lib.hid (HT1.out.drewN nq)
    obtain ⟨w2, hw2⟩ : ∃ w2, w1.drewN nq = w2 := ⟨_, rfl⟩
    rw [hw2] at HX HTx ⊢
    clear hw2
    have KNow := Lib.hid (fun q => (now_any (HX.out.drewN q).cs.ck).mono (R' := fun e w' => e = .returned (.int .i64 _) ∧ w' = w2.drewN q) (fun _ _ he => ⟨he.1, he.2.symm⟩))
    obtain ⟨pv1, pv2, hpb9, -, -⟩ := HX.out.pl.ex
    have hp90 := hpb9.cell 0
    simp only [List.getElem?_toArray, List.getElem?_cons_zero, List.getElem?_cons_succ] at hp90
    clear hpb9
    go_big_quiet ((go_at_call 13; exact Calls.quiet_of_same (KNow.out _)))
    go_wp2_with fail
    go_ret
    exact ⟨rfl, ⟨⟨_, _, _, _, HX.out.drewN nq, by omega, by omega, by omega⟩, HTx.out.drewN nq⟩⟩
  · obtain ⟨f, hf⟩ := pair_at hi
    have HSs := Lib.hid (HJ1.out.tl.got hf)
    have hil : i < L.length := (List.getElem?_eq_some_iff.1 hf).1
    obtain ⟨v1, v2, hpb, ho1, ho2⟩ := HJ1.out.pl.ex
    obtain ⟨A2, c2, rfl, hc2n, hc2m⟩ := own_slice ho2
    have hp0 := hpb.cell 0
    have hp2 := hpb.cell 2
    simp only [List.getElem?_toArray, List.getElem?_cons_zero, List.getElem?_cons_succ] at hp0 hp2
    obtain ⟨ad, rfl, hce⟩ := row_cell9 ho2 (k := i) (p := f) (by rw [List.getElem?_map, hf]; rfl)
    obtain ⟨m, hm⟩ : ∃ m, L.length = m := ⟨_, rfl⟩
    have HMm := Lib.hid hm
    rw [hm] at hp2 hil
    obtain ⟨_, fb0, fb1⟩ := HJ1.out.cs.ck.fits id f HSs.out
    have KL := Lib.hid (left_on HJ1.out.cs.ck (by omega) HId.out HSs.out)
    clear hi hf hpb ho1 ho2 hm hc2n hc2m
    by_cases hx : f - now < 0
    · rw [Int.max_eq_right (by omega)] at KL
      go_wp2_with fail
      refine KL.out.mono ?_
      rintro e w3 ⟨rfl, rfl⟩
      clear KL
      go_wp2_with fail
      have hmx : max (f - now) 0 = 0 := Int.max_eq_right (by omega)
      have hw1 : wrap64 (f - now) = f - now := IntWalk.wrap64_in _ ⟨by omega, by omega⟩
      go_big_quiet (fail)
      go_wp2_with fail
      have HX := Lib.hid (HJ1.out.drewN nq)
      have HTx := Lib.hid (HT1.out.drewN nq)
      obtain ⟨w2, hw2⟩ : ∃ w2, w1.drewN nq = w2 := ⟨_, rfl⟩
      rw [hw2] at HX HTx ⊢
      clear hw2
      have KNow := Lib.hid (fun q => (now_any (HX.out.drewN q).cs.ck).mono (R' := fun e w' => e = .returned (.int .i64 _) ∧ w' = w2.drewN q) (fun _ _ he => ⟨he.1, he.2.symm⟩))
      obtain ⟨pv1, pv2, hpb9, -, -⟩ := HX.out.pl.ex
      have hp90 := hpb9.cell 0
      simp only [List.getElem?_toArray, List.getElem?_cons_zero, List.getElem?_cons_succ] at hp90
      clear hpb9
      go_big_quiet ((go_at_call 13; exact Calls.quiet_of_same (KNow.out _)))
      go_wp2_with fail
      go_ret
      exact ⟨rfl, ⟨⟨_, _, _, _, HX.out.drewN nq, by omega, by omega, by omega⟩, HTx.out.drewN nq⟩⟩
    · rw [Int.max_eq_left (by omega)] at KL
      go_wp2_with fail
      refine KL.out.mono ?_
      rintro e w3 ⟨rfl, rfl⟩
      clear KL
      go_wp2_with fail
      have hmx : max (f - now) 0 = f - now := Int.max_eq_left (by omega)
      have hw1 : wrap64 (f - now) = f - now := IntWalk.wrap64_in _ ⟨by omega, by omega⟩
      go_big_quiet (fail)
      go_wp2_with fail
      have HX := Lib.hid (HJ1.out.drewN nq)
      have HTx := Lib.hid (HT1.out.drewN nq)
      obtain ⟨w2, hw2⟩ : ∃ w2, w1.drewN nq = w2 := ⟨_, rfl⟩
      rw [hw2] at HX HTx ⊢
      clear hw2
      have KNow := Lib.hid (fun q => (now_any (HX.out.drewN q).cs.ck).mono (R' := fun e w' => e = .returned (.int .i64 _) ∧ w' = w2.drewN q) (fun _ _ he => ⟨he.1, he.2.symm⟩))
      obtain ⟨pv1, pv2, hpb9, -, -⟩ := HX.out.pl.ex
      have hp90 := hpb9.cell 0
      simp only [List.getElem?_toArray, List.getElem?_cons_zero, List.getElem?_cons_succ] at hp90
      clear hpb9
      go_big_quiet ((go_at_call 13; exact Calls.quiet_of_same (KNow.out _)))
      go_wp2_with fail
      go_ret
      exact ⟨rfl, ⟨⟨_, _, _, _, HX.out.drewN nq, by omega, by omega, by omega⟩, HTx.out.drewN nq⟩⟩
end Go.Proofs.Ytdljbmjjdjbopaa
