/- psephoslaw09's do at an act of kind D. (Printed by tools/do9.py.) -/
import Derived.Test.YtdljbmjjdjbopaaDo9
import Derived.Test.YtdljbmjjdjbopaaWithin
import Derived.Test.YtdljbmjjdjbopaaHeldLast2
import Derived.Deep.RegionHeld3
import Derived.Deep.DeepCutAuto
import Derived.Deep.CutBlock
namespace Go.Proofs.Ytdljbmjjdjbopaa
open Go.RowKit Go.Maps Go.Sort
set_option linter.unusedSimpArgs false
set_option linter.unusedVariables false

set_option maxHeartbeats 8000000 in
set_option maxRecDepth 100000 in
theorem do9_D {w0 w : World} {cb bm pb N : Nat} {now : Int} {S : Ts} {L : List (Int × Int)} {dd id n : Int} {v : Int} (h : Jp w0 cb bm pb now N S L w) (hN : N ≤ 900000) (hn0 : 0 ≤ now) (hn1 : now ≤ 900000) (hd : fit dd) (hi : fit id) (hn : fit n) (hv : dd % 8 = v) (hk : v = 5) :
    Calls Try.prog 17 #[.pointer (some ⟨cb, 0, none⟩), .pointer (some ⟨pb, 0, none⟩), .agg #[.int .i64 dd, .int .i64 id, .int .i64 n]] w fun e w' => e = .returned (.bool true) ∧ Did w0 cb bm pb now N w w' := by
  have HJ := Lib.hid h
  have HN := Lib.hid hN
  have HId := Lib.hid hi
  have HNn := Lib.hid hn
  have KW := Lib.hid (fun w => within_any dd 8 (by omega) (by omega) (wf_i64 hd).1 (wf_i64 hd).2 w)
  rw [hv] at KW
  clear h hN hd hi hn hv
  go_enter Try.func17, Try.ntmps17
  go_upto_region 1 with fail
  obtain ⟨H, hH⟩ : ∃ H, w.heap.size = H := ⟨_, rfl⟩
  have hb1 : Below w.heap.size w (w.alloc (.cells #[.int .i64 dd, .int .i64 id, .int .i64 n] 43)) := (Below.refl _ _).alloc (Nat.le_refl _) _
  have hk1 := Blk.new w 43 #[.int .i64 dd, .int .i64 id, .int .i64 n]
  obtain ⟨w1, hw1⟩ : ∃ w1, w.alloc (.cells #[.int .i64 dd, .int .i64 id, .int .i64 n] 43) = w1 := ⟨_, rfl⟩
  have hj1 := HJ.out.below hb1
  rw [hw1] at hk1 hj1 hb1 ⊢
  rw [hH] at hk1 ⊢
  have HK1 := Lib.hid hk1
  have HJ1 := Lib.hid hj1
  have HT1 := Lib.hid (show Turn (fun k => k = cb ∨ k = bm ∨ k = pb) w w1 from Turn.of_below hb1)
  have HHs := Lib.hid (show w.heap.size ≤ H by omega)
  have HL9 := Lib.hid (show L.length ≤ 900000 by have := HJ.out.len; have := HN.out; omega)
  have ha0 := hk1.cell 0
  have ha1 := hk1.cell 1
  have ha2 := hk1.cell 2
  simp only [List.getElem?_toArray, List.getElem?_cons_zero, List.getElem?_cons_succ] at ha0 ha1 ha2
  clear hb1 hk1 hw1 hj1 HJ hH
  go_wp2_with fail
  refine (pfind_any HJ1.out.pl (by have := HL9.out; omega) id).mono ?_
  rintro e u1 ⟨r, rfl, hr, rfl⟩
  have HR := Lib.hid hr
  clear hr
  go_wp2_with fail
  refine (KW.out _).mono ?_
  rintro e u1 ⟨rfl, rfl⟩
  subst hk
  rcases HR.out with ⟨rfl, hno⟩ | ⟨i, rfl, hi⟩
  · have HSn := Lib.hid (HJ1.out.tl.off hno)
    have HDel := Lib.hid (Ts.del_off HSn.out)
    have KD := Lib.hid (drop_any HJ1.out.cs.ck HId.out)
    rw [HSn.out, HDel.out] at KD
    clear hno
    go_wp2_with fail
    refine KD.out.mono ?_
    rintro e w3 ⟨rfl, hck, ht⟩
    have HX := Lib.hid (show Jp w0 cb bm pb now N S L w3 from ⟨⟨hck, HJ1.out.cs.turned ht (fun _ hk => Or.inr hk), HJ1.out.cs.b0, HJ1.out.cs.b1⟩, HJ1.out.clock (Or.inr rfl) ht, HJ1.out.tl, HJ1.out.p0, HJ1.out.len⟩)
    have HTx := Lib.hid (HT1.out.trans (ht.mono (Z' := fun k => k = cb ∨ k = bm ∨ k = pb) (fun _ _ h => Or.inr (Or.inl h))))
    clear hck ht
    go_wp2_with fail
    have KNow := Lib.hid (fun q => (now_any (HX.out.drewN q).cs.ck).mono (R' := fun e w' => e = .returned (.int .i64 _) ∧ w' = w3.drewN q) (fun _ _ he => ⟨he.1, he.2.symm⟩))
    obtain ⟨pv1, pv2, hpb9, -, -⟩ := HX.out.pl.ex
    have hp90 := hpb9.cell 0
    simp only [List.getElem?_toArray, List.getElem?_cons_zero, List.getElem?_cons_succ] at hp90
    clear hpb9
    go_big_quiet ((go_at_call 13; exact Calls.quiet_of_same (KNow.out _)))
    go_wp2_with fail
    go_ret
    exact ⟨rfl, ⟨⟨_, _, _, _, HX.out.drewN nq, by omega, by omega, by omega⟩, HTx.out.drewN nq⟩⟩
  · obtain ⟨f, hf⟩ := pair_at hi
    have HF := Lib.hid hf
    have HSs := Lib.hid (HJ1.out.tl.got hf)
    have KD := Lib.hid (drop_any HJ1.out.cs.ck HId.out)
    rw [HSs.out] at KD
    have hil : i < L.length := (List.getElem?_eq_some_iff.1 hf).1
    have HIl := Lib.hid hil
    clear hi hf hil HR
    go_wp2_with fail
    refine KD.out.mono ?_
    rintro e w3 ⟨rfl, hck, ht⟩
    have HCs := Lib.hid (show Cs w0 cb bm now N (S.del id) w3 from ⟨hck, HJ1.out.cs.turned ht (fun _ hk => Or.inr hk), HJ1.out.cs.b0, HJ1.out.cs.b1⟩)
    have HPl := Lib.hid (HJ1.out.clock (Or.inr rfl) ht)
    have HTx := Lib.hid (HT1.out.trans (ht.mono (Z' := fun k => k = cb ∨ k = bm ∨ k = pb) (fun _ _ h => Or.inr (Or.inl h))))
    have HNe := Lib.hid HJ1.out.ne1
    have HNf := Lib.hid HJ1.out.ne2
    clear hck ht
    go_wp2_with fail
    refine (pdrop_any HPl.out HCs.out.low.size (by have := HL9.out; omega) HIl.out).mono ?_
    rintro e w4 ⟨rfl, hpl, ht⟩
    have HX := Lib.hid (show Jp w0 cb bm pb now N (S.del id) (L.eraseIdx i) w4 from
      ⟨⟨HCs.out.ck.kept ht (fun e => HNe.out e.symm) (fun e => HNf.out e.symm), HCs.out.low.trans (ht.below HCs.out.low.size (fun k hk e => by have := HJ1.out.p0; omega)), HCs.out.b0, HCs.out.b1⟩, hpl, HJ1.out.tl.erase HF.out, HJ1.out.p0, by have h1 := HJ1.out.len; rw [List.length_eraseIdx_of_lt HIl.out]; omega⟩)
    have HTy := Lib.hid (HTx.out.trans (ht.mono (Z' := fun k => k = cb ∨ k = bm ∨ k = pb) (fun _ _ h => Or.inr (Or.inr h))))
    clear hpl ht
    go_wp2_with fail
    have KNow := Lib.hid (fun q => (now_any (HX.out.drewN q).cs.ck).mono (R' := fun e w' => e = .returned (.int .i64 _) ∧ w' = w4.drewN q) (fun _ _ he => ⟨he.1, he.2.symm⟩))
    obtain ⟨pv1, pv2, hpb9, -, -⟩ := HX.out.pl.ex
    have hp90 := hpb9.cell 0
    simp only [List.getElem?_toArray, List.getElem?_cons_zero, List.getElem?_cons_succ] at hp90
    clear hpb9
    go_big_quiet ((go_at_call 13; exact Calls.quiet_of_same (KNow.out _)))
    go_wp2_with fail
    go_ret
    exact ⟨rfl, ⟨⟨_, _, _, _, HX.out.drewN nq, by omega, by omega, by omega⟩, HTy.out.drewN nq⟩⟩
end Go.Proofs.Ytdljbmjjdjbopaa
