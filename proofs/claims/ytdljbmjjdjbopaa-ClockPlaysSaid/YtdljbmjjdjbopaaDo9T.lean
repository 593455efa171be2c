/- psephoslaw09's do at an act of kind T. (Printed by tools/do9.py.) -/
import Derived.Test.YtdljbmjjdjbopaaDo9
import Derived.Test.YtdljbmjjdjbopaaWithin
import Derived.Test.YtdljbmjjdjbopaaHeldLast2
import Derived.Deep.RegionHeld3
import Derived.Deep.DeepCutAuto
import Derived.Deep.CutBlock
namespace Go.Proofs.Ytdljbmjjdjbopaa
open Go.RowKit Go.Maps Go.Sort
set_option linter.unusedSimpArgs false
set_option linter.unusedVariables false

set_option maxHeartbeats 8000000 in
set_option maxRecDepth 100000 in
theorem do9_T {w0 w : World} {cb bm pb N : Nat} {now : Int} {S : Ts} {L : List (Int × Int)} {dd id n : Int} {v : Int} (h : Jp w0 cb bm pb now N S L w) (hN : N ≤ 900000) (hn0 : 0 ≤ now) (hn1 : now ≤ 900000) (hd : fit dd) (hi : fit id) (hn : fit n) (hv : dd % 8 = v) (hk : v = 0 ∨ v = 1 ∨ v = 2) :
    Calls Try.prog 17 #[.pointer (some ⟨cb, 0, none⟩), .pointer (some ⟨pb, 0, none⟩), .agg #[.int .i64 dd, .int .i64 id, .int .i64 n]] w fun e w' => e = .returned (.bool true) ∧ Did w0 cb bm pb now N w w' := by
  have HJ := Lib.hid h
  have HN := Lib.hid hN
  have HId := Lib.hid hi
  have HNn := Lib.hid hn
  have KW := Lib.hid (fun w => within_any dd 8 (by omega) (by omega) (wf_i64 hd).1 (wf_i64 hd).2 w)
  rw [hv] at KW
  clear h hN hd hi hn hv
  go_enter Try.func17, Try.ntmps17
  go_upto_region 1 with fail
  obtain ⟨H, hH⟩ : ∃ H, w.heap.size = H := ⟨_, rfl⟩
  have hb1 : Below w.heap.size w (w.alloc (.cells #[.int .i64 dd, .int .i64 id, .int .i64 n] 43)) := (Below.refl _ _).alloc (Nat.le_refl _) _
  have hk1 := Blk.new w 43 #[.int .i64 dd, .int .i64 id, .int .i64 n]
  obtain ⟨w1, hw1⟩ : ∃ w1, w.alloc (.cells #[.int .i64 dd, .int .i64 id, .int .i64 n] 43) = w1 := ⟨_, rfl⟩
  have hj1 := HJ.out.below hb1
  rw [hw1] at hk1 hj1 hb1 ⊢
  rw [hH] at hk1 ⊢
  have HK1 := Lib.hid hk1
  have HJ1 := Lib.hid hj1
  have HT1 := Lib.hid (show Turn (fun k => k = cb ∨ k = bm ∨ k = pb) w w1 from Turn.of_below hb1)
  have HHs := Lib.hid (show w.heap.size ≤ H by omega)
  have HL9 := Lib.hid (show L.length ≤ 900000 by have := HJ.out.len; have := HN.out; omega)
  have ha0 := hk1.cell 0
  have ha1 := hk1.cell 1
  have ha2 := hk1.cell 2
  simp only [List.getElem?_toArray, List.getElem?_cons_zero, List.getElem?_cons_succ] at ha0 ha1 ha2
  clear hb1 hk1 hw1 hj1 HJ hH
  go_wp2_with fail
  refine (pfind_any HJ1.out.pl (by have := HL9.out; omega) id).mono ?_
  rintro e u1 ⟨r, rfl, hr, rfl⟩
  have HR := Lib.hid hr
  clear hr
  go_wp2_with fail
  refine (KW.out _).mono ?_
  rintro e u1 ⟨rfl, rfl⟩
  obtain ⟨v1, v2, hpb, ho1, ho2⟩ := HJ1.out.pl.ex
  have hp0 := hpb.cell 0
  have hpf := hpb.frozen 0
  simp only [List.getElem?_toArray, List.getElem?_cons_zero, List.getElem?_cons_succ] at hp0
  have HP := Lib.hid hpb
  have HO1 := Lib.hid ho1
  have HO2 := Lib.hid ho2
  clear hpb ho1 ho2
  have hwn : wrap64 (now + 1) = now + 1 := IntWalk.wrap64_in _ ⟨by omega, by omega⟩
  rcases hk with rfl | rfl | rfl
  all_goals
    go_wp2_with fail
    have HTs := Lib.hid (show Turn (fun k => k = pb) w1 (w1.setCell ⟨pb, 0, none⟩ (.int .i64 (now + 1))) from (Turn.refl _ w1).set_ _ _ rfl)
    have HPl := Lib.hid (show Pl w0.heap.size (w1.setCell ⟨pb, 0, none⟩ (.int .i64 (now + 1))) pb (now + 1) L from by
      have hb := HP.out.set_ 0 (.int .i64 (now + 1))
      simp only [List.setIfInBounds_toArray, List.set_cons_zero, List.set_cons_succ] at hb
      exact ⟨v1, v2, hb, own_far HO1.out (p := ⟨pb, 0, none⟩) (own_blk_ne HO1.out HP.out (by decide)) _, own_far HO2.out (p := ⟨pb, 0, none⟩) (own_blk_ne HO2.out HP.out (by decide)) _⟩)
    have HCs := Lib.hid (HJ1.out.plain HTs.out)
    have HTT := Lib.hid (HT1.out.trans (HTs.out.mono (Z' := fun k => k = cb ∨ k = bm ∨ k = pb) (fun _ _ h => Or.inr (Or.inr h))))
    obtain ⟨w2, hw2⟩ : ∃ w2, w1.setCell ⟨pb, 0, none⟩ (.int .i64 (now + 1)) = w2 := ⟨_, rfl⟩
    rw [hw2] at HPl HCs HTT ⊢
    have hne : pb ≠ cb := HJ1.out.ne1
    have HLen := Lib.hid HJ1.out.len
    have HTl := Lib.hid HJ1.out.tl
    have HP0 := Lib.hid HJ1.out.p0
    have HNb := Lib.hid hne
    clear hw2 HTs HJ1 hne
    refine (tick_any HCs.out.ck (by omega) (by omega)).mono ?_
    rintro e w3 ⟨rfl, hck, ht⟩
    have HX := Lib.hid (show Jp w0 cb bm pb (now + 1) N S L w3 from ⟨⟨hck, HCs.out.turned ht (fun _ hk => Or.inl hk), HCs.out.b0, HCs.out.b1⟩, HPl.out.kept ht (fun e => HNb.out e.symm) (NotRow.blk HCs.out.ck.blk (by decide)), HTl.out, HP0.out, HLen.out⟩)
    have HTx := Lib.hid (HTT.out.trans (ht.mono (Z' := fun k => k = cb ∨ k = bm ∨ k = pb) (fun _ _ h => Or.inl h)))
    clear hck ht
    go_wp2_with fail
    have KNow := Lib.hid (fun q => (now_any (HX.out.drewN q).cs.ck).mono (R' := fun e w' => e = .returned (.int .i64 _) ∧ w' = w3.drewN q) (fun _ _ he => ⟨he.1, he.2.symm⟩))
    obtain ⟨pv1, pv2, hpb9, -, -⟩ := HX.out.pl.ex
    have hp90 := hpb9.cell 0
    simp only [List.getElem?_toArray, List.getElem?_cons_zero, List.getElem?_cons_succ] at hp90
    clear hpb9
    go_big_quiet ((go_at_call 13; exact Calls.quiet_of_same (KNow.out _)))
    go_wp2_with fail
    go_ret
    exact ⟨rfl, ⟨⟨_, _, _, _, HX.out.drewN nq, by omega, by omega, by omega⟩, HTx.out.drewN nq⟩⟩
end Go.Proofs.Ytdljbmjjdjbopaa
