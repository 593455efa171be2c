/- psephoslaw09's do at an act of kind S. (Printed by tools/do9.py.) -/
import Derived.Test.YtdljbmjjdjbopaaDo9
import Derived.Test.YtdljbmjjdjbopaaWithin
import Derived.Test.YtdljbmjjdjbopaaHeldLast2
import Derived.Test.YtdljbmjjdjbopaaDo9Put
import Derived.Deep.RegionHeld3
import Derived.Deep.DeepCutAuto
import Derived.Deep.CutBlock
namespace Go.Proofs.Ytdljbmjjdjbopaa
open Go.RowKit Go.Maps Go.Sort
set_option linter.unusedSimpArgs false
set_option linter.unusedVariables false

set_option maxHeartbeats 8000000 in
set_option maxRecDepth 100000 in
theorem do9_S {w0 w : World} {cb bm pb N : Nat} {now : Int} {S : Ts} {L : List (Int × Int)} {dd id n : Int} {v : Int} (h : Jp w0 cb bm pb now N S L w) (hN : N ≤ 900000) (hn0 : 0 ≤ now) (hn1 : now ≤ 900000) (hd : fit dd) (hi : fit id) (hn : fit n) (hv : dd % 8 = v) (hk : v = 3 ∨ v = 4) :
    Calls Try.prog 17 #[.pointer (some ⟨cb, 0, none⟩), .pointer (some ⟨pb, 0, none⟩), .agg #[.int .i64 dd, .int .i64 id, .int .i64 n]] w fun e w' => e = .returned (.bool true) ∧ Did w0 cb bm pb now N w w' := by
  have HJ := Lib.hid h
  have HN := Lib.hid hN
  have HId := Lib.hid hi
  have HNn := Lib.hid hn
  have KW := Lib.hid (fun w => within_any dd 8 (by omega) (by omega) (wf_i64 hd).1 (wf_i64 hd).2 w)
  rw [hv] at KW
  clear h hN hd hi hn hv
  go_enter Try.func17, Try.ntmps17
  go_upto_region 1 with fail
  obtain ⟨H, hH⟩ : ∃ H, w.heap.size = H := ⟨_, rfl⟩
  have hb1 : Below w.heap.size w (w.alloc (.cells #[.int .i64 dd, .int .i64 id, .int .i64 n] 43)) := (Below.refl _ _).alloc (Nat.le_refl _) _
  have hk1 := Blk.new w 43 #[.int .i64 dd, .int .i64 id, .int .i64 n]
  obtain ⟨w1, hw1⟩ : ∃ w1, w.alloc (.cells #[.int .i64 dd, .int .i64 id, .int .i64 n] 43) = w1 := ⟨_, rfl⟩
  have hj1 := HJ.out.below hb1
  rw [hw1] at hk1 hj1 hb1 ⊢
  rw [hH] at hk1 ⊢
  have HK1 := Lib.hid hk1
  have HJ1 := Lib.hid hj1
  have HT1 := Lib.hid (show Turn (fun k => k = cb ∨ k = bm ∨ k = pb) w w1 from Turn.of_below hb1)
  have HHs := Lib.hid (show w.heap.size ≤ H by omega)
  have HL9 := Lib.hid (show L.length ≤ 900000 by have := HJ.out.len; have := HN.out; omega)
  have ha0 := hk1.cell 0
  have ha1 := hk1.cell 1
  have ha2 := hk1.cell 2
  simp only [List.getElem?_toArray, List.getElem?_cons_zero, List.getElem?_cons_succ] at ha0 ha1 ha2
  clear hb1 hk1 hw1 hj1 HJ hH
  go_wp2_with fail
  refine (pfind_any HJ1.out.pl (by have := HL9.out; omega) id).mono ?_
  rintro e u1 ⟨r, rfl, hr, rfl⟩
  have HR := Lib.hid hr
  clear hr
  go_wp2_with fail
  refine (KW.out _).mono ?_
  rintro e u1 ⟨rfl, rfl⟩
  have hv0 : (v == 0) = false := by simp; omega
  have hv1 : (v == 1) = false := by simp; omega
  have hv2 : (v == 2) = false := by simp; omega
  go_upto_if 109 with fail
  go_cut [109] from 110 to 111 (fun s wx => s = .bool true ∧ wx = w1)
  case first => as_aux_lemma =>
    rcases hk with rfl | rfl
    · go_wp2_with fail
      go_meet
      exact ⟨rfl, rfl⟩
    · go_wp2_with fail
      go_meet
      exact ⟨rfl, rfl⟩
  case rest => as_aux_lemma =>
    obtain ⟨rfl, rfl⟩ := hcut
    by_cases hmay : 1 ≤ n ∧ n ≤ 1048576
    · obtain ⟨m1, m2⟩ := hmay
      go_wp2_with fail
      refine (set_on HJ1.out.cs.ck (by have := HN.out; unfold maxLen; omega) (by omega) HId.out m1 m2).mono ?_
      rintro e w3 ⟨rfl, hck, ht⟩
      have HCs3 := Lib.hid (show Cs w0 cb bm now (N + 1) (S.set id (now + n)) w3 from ⟨hck, HJ1.out.cs.turned ht (fun _ hk => Or.inr hk), HJ1.out.cs.b0, HJ1.out.cs.b1⟩)
      have HPl3 := Lib.hid (HJ1.out.clock (Or.inr rfl) ht)
      have HA3 := Lib.hid (ht.blk HK1.out (HJ1.out.cs.ck.map.elim fun _ hD => blk_ne_map HK1.out hD.1))
      have HT3 := Lib.hid (HT1.out.trans (ht.mono (Z' := fun k => k = cb ∨ k = bm ∨ k = pb) (fun _ _ h => Or.inr (Or.inl h))))
      have HNe := Lib.hid HJ1.out.ne1
      have HNf := Lib.hid HJ1.out.ne2
      have HAp := Lib.hid (show H ≠ pb from HJ1.out.pl.ex.elim fun _ h => h.elim fun _ h => Blk.ne_ HK1.out h.1 (by decide))
      have HTl := Lib.hid HJ1.out.tl
      have HP0 := Lib.hid HJ1.out.p0
      have HLen := Lib.hid HJ1.out.len
      clear hck ht ha0 ha1 ha2 HJ1 HK1
      go_upto_if 130 with fail
      go_cut [130] from 131 to 133 (fun s wx => ∃ L', Hid (Ju w0 cb bm pb now N S L' id (now + n) wx) ∧ Hid (Turn (fun k => k = cb ∨ k = bm ∨ k = pb) w wx) ∧ Hid (Blk wx H 43 #[.int .i64 dd, .int .i64 id, .int .i64 n]) ∧ Hid (L'.length ≤ 900000))
      case first => as_aux_lemma =>
        rcases HR.out with ⟨rfl, hno⟩ | ⟨i, rfl, hi⟩
        · have HJ5 := Lib.hid (show Ju w0 cb bm pb now N S L id (now + n) w3 from ⟨HCs3.out, HPl3.out, HTl.out.put hno, HLen.out, HP0.out, HNe.out, HNf.out⟩)
          clear hno
          go_wp2_with fail
          go_meet
          exact ⟨L, HJ5, HT3, HA3, HL9⟩
        · obtain ⟨f, hf⟩ := pair_at hi
          have HIl := Lib.hid (show i < L.length from (List.getElem?_eq_some_iff.1 hf).1)
          have HTe := Lib.hid (show Tl (L.eraseIdx i ++ [(id, now + n)]) (S.set id (now + n)) from by rw [← Ts.set_del]; exact (HTl.out.erase hf).put (gone HTl.out.once hf))
          clear hi hf
          go_wp2_with fail
          refine (pdrop_any HPl3.out HCs3.out.low.size (by have := HL9.out; omega) HIl.out).mono ?_
          rintro e w4 ⟨rfl, hpl, ht⟩
          have HJ5 := Lib.hid (show Ju w0 cb bm pb now N S (L.eraseIdx i) id (now + n) w4 from
            ⟨⟨HCs3.out.ck.kept ht (fun e => HNe.out e.symm) (fun e => HNf.out e.symm), HCs3.out.low.trans (ht.below HCs3.out.low.size (fun k hk e => by have := HP0.out; omega)), HCs3.out.b0, HCs3.out.b1⟩, hpl, HTe.out, by rw [List.length_eraseIdx_of_lt HIl.out]; have := HLen.out; omega, HP0.out, HNe.out, HNf.out⟩)
          have HT5 := Lib.hid (HT3.out.trans (ht.mono (Z' := fun k => k = cb ∨ k = bm ∨ k = pb) (fun _ _ h => Or.inr (Or.inr h))))
          have HA5 := Lib.hid (ht.blk HA3.out HAp.out)
          clear hpl ht
          go_wp2_with fail
          go_meet
          exact ⟨_, HJ5, HT5, HA5, Lib.hid (by rw [List.length_eraseIdx_of_lt HIl.out]; have := HL9.out; omega)⟩
      case rest => as_aux_lemma =>
        obtain ⟨L', HJ5, HT5, HAc, HL5⟩ := hcut
        clear HCs3 HPl3 HA3 HT3 HTl HLen HR HL9
        obtain ⟨v1, v2, hpb, ho1, ho2⟩ := HJ5.out.pl.ex
        obtain ⟨A1, c1, rfl, hc1n, hc1m⟩ := own_slice ho1
        obtain ⟨A2, c2, rfl, hc2n, hc2m⟩ := own_slice ho2
        obtain ⟨i0, hi, hx0, hx1, hx2⟩ := info_parts cinfo_int
        obtain ⟨m, hm⟩ : ∃ m, L'.length = m := ⟨_, rfl⟩
        have HMm := Lib.hid hm
        have HI1 := Lib.hid (Has.own ho1)
        have HI2 := Lib.hid (Has.own ho2)
        have HN1 := Lib.hid (own_none0 ho1)
        have HN2 := Lib.hid (own_none0 ho2)
        rw [hm] at hpb
        have HPb := Lib.hid hpb
        have HM9 := Lib.hid (show m ≤ 900000 by have := HL5.out; omega)
        have HM1 := Lib.hid (show m + 1 ≤ maxLen by have := HM9.out; unfold maxLen; omega)
        have HM2 := Lib.hid (show (m + 1) * 8 ≤ 140737488355328 by have := HM9.out; omega)
        have p1 := hpb.cell 1
        have p2 := hpb.cell 2
        have p0 := hpb.cell 0
        have a1 := HAc.out.cell 1
        have a2 := HAc.out.cell 2
        simp only [List.getElem?_toArray, List.getElem?_cons_zero, List.getElem?_cons_succ] at p1 p2 p0 a1 a2
        have hwn : IntKind.i64.wrap (now + n) = now + n := IntWalk.i64_in _ ⟨by omega, by omega⟩
        clear hpb ho1 ho2 hm hc1n hc1m hc2n hc2m
        go_wp2_with fail
        have HB0 := Lib.hid ((Below.refl wc.heap.size wc).drew)
        refine wpM_region (S := fun w' => w'.cell? ⟨pb, 1, none⟩ = some (.slice A1 m c1) ∧ w'.cell? ⟨pb, 2, none⟩ = some (.slice A2 m c2) ∧ w'.cell? ⟨pb, 0, none⟩ = some (.int .i64 now) ∧ w'.cell? ⟨H, 1, none⟩ = some (.int .i64 id) ∧ w'.cell? ⟨H, 2, none⟩ = some (.int .i64 n)) (z := [1, 25, 26, 27, 28, 29, 30]) (n := 31) (d := #[false, false, false, false, false, false, false, false, false, false, false, false, false, false, false, false, false, false, false, false, false, false, false, false, false, false, false, false, false, false, false]) (by kernel_rfl) (by rfl) (by rfl) (⟨p1, p2, p0, a1, a2⟩) (fun hHeld => ?_)
        clear p1 p2 p0 a1 a2
        obtain ⟨wd, hwd⟩ : ∃ x, wc.drew = x := ⟨_, rfl⟩
        rw [hwd] at hHeld HB0 ⊢
        clear hwd
        refine wpM_pure (i := 1) (v := ?_) rfl (by kernel_rfl) (by kernel_rfl) (by kernel_rfl) (by kernel_rfl) (fun _ _ _ h => h) (Or.inl ⟨by rfl, ?_⟩) ?_
        rotate_left
        · (intro w hSw; first | (go_simp; done) | (go_simp; with_reducible rfl))
        try simp only [Act.put, List.setIfInBounds_toArray, List.set_cons_zero, List.set_cons_succ]
        refine wpM_take (ps := [[]]) (i := 0) (v := ?_) rfl (by kernel_rfl) (by kernel_rfl) (by kernel_rfl) (by kernel_rfl) (by kernel_rfl) (fun _ _ _ h => h) (Or.inl ⟨by rfl, ?_⟩) (by assumption) ?_
        rotate_left
        · (intro w hSw; (try dsimp only at hSw); first | (go_simp; done) | (go_simp; with_reducible rfl))
        try simp only [Act.put, List.setIfInBounds_toArray, List.set_cons_zero, List.set_cons_succ]
        refine wpM_take (ps := [[]]) (i := 2) (v := ?_) rfl (by kernel_rfl) (by kernel_rfl) (by kernel_rfl) (by kernel_rfl) (by kernel_rfl) (fun _ _ _ h => h) (Or.inl ⟨by rfl, ?_⟩) (by assumption) ?_
        rotate_left
        · (intro w hSw; (try dsimp only at hSw); first | (go_simp; done) | (go_simp; with_reducible rfl))
        try simp only [Act.put, List.setIfInBounds_toArray, List.set_cons_zero, List.set_cons_succ]
        refine wpM_take (ps := [[]]) (i := 3) (v := ?_) rfl (by kernel_rfl) (by kernel_rfl) (by kernel_rfl) (by kernel_rfl) (by kernel_rfl) (fun _ _ _ h => h) (Or.inl ⟨by rfl, ?_⟩) (by assumption) ?_
        rotate_left
        · (intro w hSw; (try dsimp only at hSw); first | (go_simp; done) | (go_simp; with_reducible rfl))
        try simp only [Act.put, List.setIfInBounds_toArray, List.set_cons_zero, List.set_cons_succ]
        refine wpM_take (ps := [[]]) (i := 4) (v := ?_) rfl (by kernel_rfl) (by kernel_rfl) (by kernel_rfl) (by kernel_rfl) (by kernel_rfl) (fun _ _ _ h => h) (Or.inl ⟨by rfl, ?_⟩) (by assumption) ?_
        rotate_left
        · (intro w hSw; (try dsimp only at hSw); first | (go_simp; done) | (go_simp; with_reducible rfl))
        try simp only [Act.put, List.setIfInBounds_toArray, List.set_cons_zero, List.set_cons_succ]
        refine wpM_take (ps := [[]]) (i := 5) (v := ?_) rfl (by kernel_rfl) (by kernel_rfl) (by kernel_rfl) (by kernel_rfl) (by kernel_rfl) (fun _ _ _ h => h) (Or.inl ⟨by rfl, ?_⟩) (by assumption) ?_
        rotate_left
        · (intro w hSw; (try dsimp only at hSw); first | (go_simp; done) | (go_simp; with_reducible rfl))
        try simp only [Act.put, List.setIfInBounds_toArray, List.set_cons_zero, List.set_cons_succ]
        refine wpM_take (ps := [[]]) (i := 7) (v := ?_) rfl (by kernel_rfl) (by kernel_rfl) (by kernel_rfl) (by kernel_rfl) (by kernel_rfl) (fun _ _ _ h => h) (Or.inl ⟨by rfl, ?_⟩) (by assumption) ?_
        rotate_left
        · (intro w hSw; (try dsimp only at hSw); first | (go_simp; done) | (go_simp; with_reducible rfl))
        try simp only [Act.put, List.setIfInBounds_toArray, List.set_cons_zero, List.set_cons_succ]
        refine wpM_take (ps := [[]]) (i := 8) (v := ?_) rfl (by kernel_rfl) (by kernel_rfl) (by kernel_rfl) (by kernel_rfl) (by kernel_rfl) (fun _ _ _ h => h) (Or.inl ⟨by rfl, ?_⟩) (by assumption) ?_
        rotate_left
        · (intro w hSw; (try dsimp only at hSw); first | (go_simp; done) | (go_simp; with_reducible rfl))
        try simp only [Act.put, List.setIfInBounds_toArray, List.set_cons_zero, List.set_cons_succ]
        refine wpM_take (ps := [[14, 13, 12], []]) (i := 11) (v := ?_) rfl (by kernel_rfl) (by kernel_rfl) (by kernel_rfl) (by kernel_rfl) (by kernel_rfl) (fun _ _ _ h => h) (Or.inl ⟨by rfl, ?_⟩) (by assumption) ?_
        rotate_left
        · (intro w hSw; (try dsimp only at hSw); first | (go_simp; done) | (go_simp; with_reducible rfl))
        try simp only [Act.put, List.setIfInBounds_toArray, List.set_cons_zero, List.set_cons_succ]
        refine wpM_take (ps := [[14, 13], []]) (i := 12) (v := ?_) rfl (by kernel_rfl) (by kernel_rfl) (by kernel_rfl) (by kernel_rfl) (by kernel_rfl) (fun _ _ _ h => h) (Or.inl ⟨by rfl, ?_⟩) (by assumption) ?_
        rotate_left
        · (intro w hSw; (try dsimp only at hSw); first | (go_simp; done) | (go_simp; with_reducible rfl))
        try simp only [Act.put, List.setIfInBounds_toArray, List.set_cons_zero, List.set_cons_succ]
        refine wpM_take (ps := [[14], []]) (i := 13) (v := ?_) rfl (by kernel_rfl) (by kernel_rfl) (by kernel_rfl) (by kernel_rfl) (by kernel_rfl) (fun _ _ _ h => h) (Or.inl ⟨by rfl, ?_⟩) (by assumption) ?_
        rotate_left
        · (intro w hSw; (try dsimp only at hSw); first | (go_simp; done) | (go_simp; with_reducible rfl))
        try simp only [Act.put, List.setIfInBounds_toArray, List.set_cons_zero, List.set_cons_succ]
        refine wpM_take (ps := [[]]) (i := 14) (v := ?_) rfl (by kernel_rfl) (by kernel_rfl) (by kernel_rfl) (by kernel_rfl) (by kernel_rfl) (fun _ _ _ h => h) (Or.inl ⟨by rfl, ?_⟩) (by assumption) ?_
        rotate_left
        · (intro w hSw; (try dsimp only at hSw); first | (go_simp; done) | (go_simp; with_reducible rfl))
        try simp only [Act.put, List.setIfInBounds_toArray, List.set_cons_zero, List.set_cons_succ]
        refine wpM_take (ps := [[19, 18, 17], []]) (i := 16) (v := ?_) rfl (by kernel_rfl) (by kernel_rfl) (by kernel_rfl) (by kernel_rfl) (by kernel_rfl) (fun _ _ _ h => h) (Or.inl ⟨by rfl, ?_⟩) (by assumption) ?_
        rotate_left
        · (intro w hSw; (try dsimp only at hSw); first | (go_simp; done) | (go_simp; with_reducible rfl))
        try simp only [Act.put, List.setIfInBounds_toArray, List.set_cons_zero, List.set_cons_succ]
        refine wpM_take (ps := [[19, 18], []]) (i := 17) (v := ?_) rfl (by kernel_rfl) (by kernel_rfl) (by kernel_rfl) (by kernel_rfl) (by kernel_rfl) (fun _ _ _ h => h) (Or.inl ⟨by rfl, ?_⟩) (by assumption) ?_
        rotate_left
        · (intro w hSw; (try dsimp only at hSw); first | (go_simp; done) | (go_simp; with_reducible rfl))
        try simp only [Act.put, List.setIfInBounds_toArray, List.set_cons_zero, List.set_cons_succ]
        refine wpM_take (ps := [[19], []]) (i := 18) (v := ?_) rfl (by kernel_rfl) (by kernel_rfl) (by kernel_rfl) (by kernel_rfl) (by kernel_rfl) (fun _ _ _ h => h) (Or.inl ⟨by rfl, ?_⟩) (by assumption) ?_
        rotate_left
        · (intro w hSw; (try dsimp only at hSw); first | (go_simp; done) | (go_simp; with_reducible rfl))
        try simp only [Act.put, List.setIfInBounds_toArray, List.set_cons_zero, List.set_cons_succ]
        refine wpM_take (ps := [[]]) (i := 19) (v := ?_) rfl (by kernel_rfl) (by kernel_rfl) (by kernel_rfl) (by kernel_rfl) (by kernel_rfl) (fun _ _ _ h => h) (Or.inl ⟨by rfl, ?_⟩) (by assumption) ?_
        rotate_left
        · (intro w hSw; (try dsimp only at hSw); first | (go_simp; done) | (go_simp; with_reducible rfl))
        try simp only [Act.put, List.setIfInBounds_toArray, List.set_cons_zero, List.set_cons_succ]
        refine wpM_take (ps := [[24, 23, 22, 21], []]) (i := 20) (v := ?_) rfl (by kernel_rfl) (by kernel_rfl) (by kernel_rfl) (by kernel_rfl) (by kernel_rfl) (fun _ _ _ h => h) (Or.inl ⟨by rfl, ?_⟩) (by assumption) ?_
        rotate_left
        · (intro w hSw; (try dsimp only at hSw); first | (go_simp; done) | (go_simp; with_reducible rfl))
        try simp only [Act.put, List.setIfInBounds_toArray, List.set_cons_zero, List.set_cons_succ]
        refine wpM_take (ps := [[24, 23, 22], []]) (i := 21) (v := ?_) rfl (by kernel_rfl) (by kernel_rfl) (by kernel_rfl) (by kernel_rfl) (by kernel_rfl) (fun _ _ _ h => h) (Or.inl ⟨by rfl, ?_⟩) (by assumption) ?_
        rotate_left
        · (intro w hSw; (try dsimp only at hSw); first | (go_simp; done) | (go_simp; with_reducible rfl))
        try simp only [Act.put, List.setIfInBounds_toArray, List.set_cons_zero, List.set_cons_succ]
        refine wpM_take (ps := [[24, 23], []]) (i := 22) (v := ?_) rfl (by kernel_rfl) (by kernel_rfl) (by kernel_rfl) (by kernel_rfl) (by kernel_rfl) (fun _ _ _ h => h) (Or.inl ⟨by rfl, ?_⟩) (by assumption) ?_
        rotate_left
        · (intro w hSw; (try dsimp only at hSw); first | (go_simp; done) | (go_simp; with_reducible rfl))
        try simp only [Act.put, List.setIfInBounds_toArray, List.set_cons_zero, List.set_cons_succ]
        clear hHeld
        refine wpM_ready (rs := [6, 9, 23]) (by kernel_rfl) (by simp) ?_
        refine AllM.cons rfl (fun K hK => ?_) (AllM.cons rfl (fun K hK => ?_) (AllM.cons rfl (fun K hK => ?_) AllM.nil))
        · go_simp
          go_at_call 22
          refine (copy_ints A1 c1 m wc.heap.size (L'.map Prod.fst) wd (by rw [List.length_map]; exact HMm.out) (by have := HM9.out; omega) (HI1.out.below HB0.out (Nat.le_refl _)) HN1.out).mono ?_
          rintro e y1 ⟨v6_, rfl, ho, hb⟩
          obtain ⟨A6_1, c6_1, rfl, -, -⟩ := own_slice ho
          have HO6_1 := Lib.hid (own_low9 ho HB0.out.size)
          have HB1 := Lib.hid (HB0.out.trans (hb.mono HB0.out.size))
          clear ho hb
          try (go_wp2_with fail)
          have kb1 := Blk.below HPb.out HB1.out HPb.out.lt
          have ka1 := Blk.below HAc.out HB1.out HAc.out.lt
          have q1 := kb1.cell 1
          have q2 := kb1.cell 2
          have q0 := kb1.cell 0
          have a1 := ka1.cell 1
          have a2 := ka1.cell 2
          simp only [List.getElem?_toArray, List.getElem?_cons_zero, List.getElem?_cons_succ] at q1 q2 q0 a1 a2
          refine hK.out _ _ (fun _ => ⟨q1, q2, q0, a1, a2⟩) (fun hHeld => ?_)
          clear hK K q1 q2 q0 a1 a2 kb1 ka1
          have hHeld := hHeld (by decide)
          clear hHeld
          try simp only [Act.put, List.setIfInBounds_toArray, List.set_cons_zero, List.set_cons_succ]
          refine wpM_ready (rs := [9, 23]) (by kernel_rfl) (by simp) ?_
          refine AllM.cons rfl (fun K hK => ?_) (AllM.cons rfl (fun K hK => ?_) AllM.nil)
          · go_simp
            have hb : Below y1.heap.size y1 (y1.alloc (.cells #[.int .i64 id] 3)) := (Below.refl _ _).alloc (Nat.le_refl _) _
            have hf := Has.tight (Has.fresh y1 #[.int .i64 id] 3)
            have hs : y1.heap.size < (y1.alloc (.cells #[.int .i64 id] 3)).heap.size := by simp
            obtain ⟨y2, hwy⟩ : ∃ x, y1.alloc (.cells #[.int .i64 id] 3) = x := ⟨_, rfl⟩
            rw [hwy] at hb hf hs ⊢
            clear hwy
            have HH9_2 := Lib.hid (show Has y2 y2.heap.size (some ⟨y1.heap.size, 0, none⟩) (ics [id]) from hf)
            have HB2 := Lib.hid (HB1.out.trans (hb.mono HB1.out.size))
            have HO6_2 := Lib.hid (below_own HO6_1.out hb (Nat.le_refl _))
            clear hb hf hs
            have kb2 := Blk.below HPb.out HB2.out HPb.out.lt
            have ka2 := Blk.below HAc.out HB2.out HAc.out.lt
            have q1 := kb2.cell 1
            have q2 := kb2.cell 2
            have q0 := kb2.cell 0
            have a1 := ka2.cell 1
            have a2 := ka2.cell 2
            simp only [List.getElem?_toArray, List.getElem?_cons_zero, List.getElem?_cons_succ] at q1 q2 q0 a1 a2
            refine hK.out _ _ (fun _ => ⟨q1, q2, q0, a1, a2⟩) (fun hHeld => ?_)
            clear hK K q1 q2 q0 a1 a2 kb2 ka2
            have hHeld := hHeld (by decide)
            clear hHeld
            try simp only [Act.put, List.setIfInBounds_toArray, List.set_cons_zero, List.set_cons_succ]
            refine wpM_ready (rs := [10, 23]) (by kernel_rfl) (by simp) ?_
            refine AllM.cons rfl (fun K hK => ?_) (AllM.cons rfl (fun K hK => ?_) AllM.nil)
            · refine step_app (w := y2) rfl (.tmp 140) (.tmp 143) 22 rfl wc.heap.size 3 i0 (.int .i64 0) 8 Try.underlying22 hi hx0 hx1 hx2 rfl (.slice A6_1 m c6_1) m (ics (L'.map Prod.fst)) rfl HO6_2.out y2.heap.size (some ⟨y1.heap.size, 0, none⟩) 1 1 (ics [id]) rfl rfl HH9_2.out (fun e => nomatch e) (ics_one _) HM1.out HM2.out HB2.out.size ?_
              intro vb y3 ho hg hl
              obtain ⟨A10_3, c10_3, rfl, -, -⟩ := own_slice ho
              have HO10_3 := Lib.hid (show y3.ownsRow wc.heap.size 3 1 (.slice A10_3 (m + 1) c10_3) (m + 1) (ics (L'.map Prod.fst ++ [id])) from by rw [ics_app]; exact ho)
              have HB3 := Lib.hid (HB2.out.grown hg HB2.out.size (fun g hg => (HO6_2.out.lt g hg).1))
              have ht : Turn (fun k => (Value.slice A6_1 m c6_1).ownBlock = some k) y2 y3 := Turn.grown (Turn.refl _ _) hg (fun k hk _ => hk)
              clear ho hg hl ht
              have kb3 := Blk.below HPb.out HB3.out HPb.out.lt
              have ka3 := Blk.below HAc.out HB3.out HAc.out.lt
              have q1 := kb3.cell 1
              have q2 := kb3.cell 2
              have q0 := kb3.cell 0
              have a1 := ka3.cell 1
              have a2 := ka3.cell 2
              simp only [List.getElem?_toArray, List.getElem?_cons_zero, List.getElem?_cons_succ] at q1 q2 q0 a1 a2
              refine hK.out _ _ (fun _ => ⟨q1, q2, q0, a1, a2⟩) (fun hHeld => ?_)
              clear hK K q1 q2 q0 a1 a2 kb3 ka3
              have hHeld := hHeld (by decide)
              clear hHeld
              try simp only [Act.put, List.setIfInBounds_toArray, List.set_cons_zero, List.set_cons_succ]
              refine wpM_ready (rs := [15, 23]) (by kernel_rfl) (by simp) ?_
              refine AllM.cons rfl (fun K hK => ?_) (AllM.cons rfl (fun K hK => ?_) AllM.nil)
              · go_simp
                go_at_call 22
                refine (copy_ints A2 c2 m wc.heap.size (L'.map Prod.snd) y3 (by rw [List.length_map]; exact HMm.out) (by have := HM9.out; omega) (HI2.out.below HB3.out (Nat.le_refl _)) HN2.out).mono ?_
                rintro e y4 ⟨v15_, rfl, ho, hb⟩
                obtain ⟨A15_4, c15_4, rfl, -, -⟩ := own_slice ho
                have HO15_4 := Lib.hid (own_low9 ho HB3.out.size)
                have HB4 := Lib.hid (HB3.out.trans (hb.mono HB3.out.size))
                have HE15_4 := Lib.hid (show ∀ g, (Value.slice A10_3 (m + 1) c10_3).ownBlock = some g → (Value.slice A15_4 m c15_4).ownBlock ≠ some g from fun g hg e => by have h1 := (HO10_3.out.lt g hg).2; have h2 := (ho.lt g e).1; omega)
                have HO10_4 := Lib.hid (below_own HO10_3.out hb (Nat.le_refl _))
                clear ho hb
                try (go_wp2_with fail)
                have kb4 := Blk.below HPb.out HB4.out HPb.out.lt
                have ka4 := Blk.below HAc.out HB4.out HAc.out.lt
                have q1 := kb4.cell 1
                have q2 := kb4.cell 2
                have q0 := kb4.cell 0
                have a1 := ka4.cell 1
                have a2 := ka4.cell 2
                simp only [List.getElem?_toArray, List.getElem?_cons_zero, List.getElem?_cons_succ] at q1 q2 q0 a1 a2
                refine hK.out _ _ (fun _ => ⟨q1, q2, q0, a1, a2⟩) (fun hHeld => ?_)
                clear hK K q1 q2 q0 a1 a2 kb4 ka4
                have hHeld := hHeld (by decide)
                clear hHeld
                try simp only [Act.put, List.setIfInBounds_toArray, List.set_cons_zero, List.set_cons_succ]
                refine wpM_ready (rs := [23]) (by kernel_rfl) (by simp) ?_
                refine AllM.cons rfl (fun K hK => ?_) AllM.nil
                · go_simp
                  have hb : Below y4.heap.size y4 (y4.alloc (.cells #[.int .i64 (now + n)] 3)) := (Below.refl _ _).alloc (Nat.le_refl _) _
                  have hf := Has.tight (Has.fresh y4 #[.int .i64 (now + n)] 3)
                  have hs : y4.heap.size < (y4.alloc (.cells #[.int .i64 (now + n)] 3)).heap.size := by simp
                  obtain ⟨y5, hwy⟩ : ∃ x, y4.alloc (.cells #[.int .i64 (now + n)] 3) = x := ⟨_, rfl⟩
                  rw [hwy] at hb hf hs ⊢
                  clear hwy
                  have HH23_5 := Lib.hid (show Has y5 y5.heap.size (some ⟨y4.heap.size, 0, none⟩) (ics [(now + n)]) from hf)
                  have HB5 := Lib.hid (HB4.out.trans (hb.mono HB4.out.size))
                  have HL23_5 := Lib.hid hs
                  have HO10_5 := Lib.hid (below_own HO10_4.out hb (Nat.le_refl _))
                  have HO15_5 := Lib.hid (below_own HO15_4.out hb (Nat.le_refl _))
                  clear hb hf hs
                  have kb5 := Blk.below HPb.out HB5.out HPb.out.lt
                  have ka5 := Blk.below HAc.out HB5.out HAc.out.lt
                  have q1 := kb5.cell 1
                  have q2 := kb5.cell 2
                  have q0 := kb5.cell 0
                  have a1 := ka5.cell 1
                  have a2 := ka5.cell 2
                  simp only [List.getElem?_toArray, List.getElem?_cons_zero, List.getElem?_cons_succ] at q1 q2 q0 a1 a2
                  refine hK.out _ _ (fun _ => ⟨q1, q2, q0, a1, a2⟩) (fun hHeld => ?_)
                  clear hK K q1 q2 q0 a1 a2 kb5 ka5
                  have hHeld := hHeld (by decide)
                  clear hHeld
                  try simp only [Act.put, List.setIfInBounds_toArray, List.set_cons_zero, List.set_cons_succ]
                  refine wpM_ready (rs := [24]) (by kernel_rfl) (by simp) ?_
                  refine AllM.cons rfl (fun K hK => ?_) AllM.nil
                  · refine step_app (w := y5) rfl (.tmp 149) (.tmp 157) 22 rfl wc.heap.size 3 i0 (.int .i64 0) 8 Try.underlying22 hi hx0 hx1 hx2 rfl (.slice A15_4 m c15_4) m (ics (L'.map Prod.snd)) rfl HO15_5.out y5.heap.size (some ⟨y4.heap.size, 0, none⟩) 1 1 (ics [(now + n)]) rfl rfl HH23_5.out (fun e => nomatch e) (ics_one _) HM1.out HM2.out HB5.out.size ?_
                    intro vb y6 ho hg hl
                    obtain ⟨A24_6, c24_6, rfl, -, -⟩ := own_slice ho
                    have HO24_6 := Lib.hid (show y6.ownsRow wc.heap.size 3 1 (.slice A24_6 (m + 1) c24_6) (m + 1) (ics (L'.map Prod.snd ++ [(now + n)])) from by rw [ics_app]; exact ho)
                    have HB6 := Lib.hid (HB5.out.grown hg HB5.out.size (fun g hg => (HO15_5.out.lt g hg).1))
                    have ht : Turn (fun k => (Value.slice A15_4 m c15_4).ownBlock = some k) y5 y6 := Turn.grown (Turn.refl _ _) hg (fun k hk _ => hk)
                    have HO10_6 := Lib.hid (ht.own HO10_5.out (fun g hg e => HE15_4.out g hg e))
                    clear ho hg hl ht
                    have kb6 := Blk.below HPb.out HB6.out HPb.out.lt
                    have ka6 := Blk.below HAc.out HB6.out HAc.out.lt
                    have q1 := kb6.cell 1
                    have q2 := kb6.cell 2
                    have q0 := kb6.cell 0
                    have a1 := ka6.cell 1
                    have a2 := ka6.cell 2
                    simp only [List.getElem?_toArray, List.getElem?_cons_zero, List.getElem?_cons_succ] at q1 q2 q0 a1 a2
                    refine hK.out _ _ (fun _ => ⟨q1, q2, q0, a1, a2⟩) (fun hHeld => ?_)
                    clear hK K q1 q2 q0 a1 a2 kb6 ka6
                    have hHeld := hHeld (by decide)
                    clear hHeld
                    try simp only [Act.put, List.setIfInBounds_toArray, List.set_cons_zero, List.set_cons_succ]
                    refine wpM_pure (i := 25) (v := ?_) rfl (by kernel_rfl) (by kernel_rfl) (by kernel_rfl) (by kernel_rfl) (fun _ _ _ h => h) (Or.inl ⟨by rfl, ?_⟩) ?_
                    rotate_left
                    · (intro w hSw; first | (go_simp; done) | (go_simp; with_reducible rfl))
                    try simp only [Act.put, List.setIfInBounds_toArray, List.set_cons_zero, List.set_cons_succ]
                    refine wpM_pure (i := 26) (v := ?_) rfl (by kernel_rfl) (by kernel_rfl) (by kernel_rfl) (by kernel_rfl) (fun _ _ _ h => h) (Or.inl ⟨by rfl, ?_⟩) ?_
                    rotate_left
                    · (intro w hSw; first | (go_simp; done) | (go_simp; with_reducible rfl))
                    try simp only [Act.put, List.setIfInBounds_toArray, List.set_cons_zero, List.set_cons_succ]
                    have kb := Blk.below HPb.out HB6.out HPb.out.lt
                    have r1 := kb.frozen 1
                    have hbl := HB6.out
                    refine wpM_ready (rs := [27]) (by kernel_rfl) (by simp) ?_
                    refine AllM.cons rfl (fun K hK => ?_) AllM.nil
                    go_simp
                    refine hK.out _ _ (fun h => absurd h (by decide)) (fun hHeld => ?_)
                    clear hK K hHeld
                    try simp only [Act.put, List.setIfInBounds_toArray, List.set_cons_zero, List.set_cons_succ]
                    refine wpM_pure (i := 28) (v := ?_) rfl (by kernel_rfl) (by kernel_rfl) (by kernel_rfl) (by kernel_rfl) (fun _ _ _ h => h) (Or.inl ⟨by rfl, ?_⟩) ?_
                    rotate_left
                    · (intro w hSw; first | (go_simp; done) | (go_simp; with_reducible rfl))
                    try simp only [Act.put, List.setIfInBounds_toArray, List.set_cons_zero, List.set_cons_succ]
                    refine wpM_pure (i := 29) (v := ?_) rfl (by kernel_rfl) (by kernel_rfl) (by kernel_rfl) (by kernel_rfl) (fun _ _ _ h => h) (Or.inl ⟨by rfl, ?_⟩) ?_
                    rotate_left
                    · (intro w hSw; first | (go_simp; done) | (go_simp; with_reducible rfl))
                    try simp only [Act.put, List.setIfInBounds_toArray, List.set_cons_zero, List.set_cons_succ]
                    have kb2 := kb.set_ 1 (.slice A10_3 (m + 1) c10_3)
                    have r2 := kb2.frozen 2
                    refine wpM_ready (rs := [30]) (by kernel_rfl) (by simp) ?_
                    refine AllM.cons rfl (fun K hK => ?_) AllM.nil
                    go_simp
                    refine hK.out _ _ (fun h => absurd h (by decide)) (fun hHeld => ?_)
                    clear hK K hHeld
                    try simp only [Act.put, List.setIfInBounds_toArray, List.set_cons_zero, List.set_cons_succ]
                    refine wpM_done (by kernel_rfl) ?_ _
                    have kb3 := kb2.set_ 2 (.slice A24_6 (m + 1) c24_6)
                    simp only [List.setIfInBounds_toArray, List.set_cons_zero, List.set_cons_succ] at kb3
                    have ne10 := own_blk_ne HO10_6.out kb (by decide)
                    have ne24 := own_blk_ne HO24_6.out kb (by decide)
                    have o10 := own_far (own_far HO10_6.out (p := ⟨pb, 1, none⟩) ne10 (.slice A10_3 (m + 1) c10_3)) (p := ⟨pb, 2, none⟩) ne10 (.slice A24_6 (m + 1) c24_6)
                    have o24 := own_far (own_far HO24_6.out (p := ⟨pb, 1, none⟩) ne24 (.slice A10_3 (m + 1) c10_3)) (p := ⟨pb, 2, none⟩) ne24 (.slice A24_6 (m + 1) c24_6)
                    have htz : Turn (fun k => k = pb) wc ((y6.setCell ⟨pb, 1, none⟩ (.slice A10_3 (m + 1) c10_3)).setCell ⟨pb, 2, none⟩ (.slice A24_6 (m + 1) c24_6)) := ((Turn.of_below (Z := fun k => k = pb) hbl).set_ ⟨pb, 1, none⟩ _ rfl).set_ ⟨pb, 2, none⟩ _ rfl
                    obtain ⟨wz, hwz⟩ : ∃ wz, (y6.setCell ⟨pb, 1, none⟩ (.slice A10_3 (m + 1) c10_3)).setCell ⟨pb, 2, none⟩ (.slice A24_6 (m + 1) c24_6) = wz := ⟨_, rfl⟩
                    rw [hwz] at kb3 o10 o24 htz ⊢
                    have HX := Lib.hid (put_done HJ5.out HMm.out kb3 o10 o24 htz)
                    have HTx := Lib.hid (HT5.out.trans (htz.mono (Z' := fun k => k = cb ∨ k = bm ∨ k = pb) (fun _ _ h => Or.inr (Or.inr h))))
                    clear kb kb2 kb3 r1 r2 hbl ne10 ne24 o10 o24 htz hwz
                    go_wp2_with fail
                    have KNow := Lib.hid (fun q => (now_any (HX.out.drewN q).cs.ck).mono (R' := fun e w' => e = .returned (.int .i64 _) ∧ w' = wz.drewN q) (fun _ _ he => ⟨he.1, he.2.symm⟩))
                    obtain ⟨pv1, pv2, hpb9, -, -⟩ := HX.out.pl.ex
                    have hp90 := hpb9.cell 0
                    simp only [List.getElem?_toArray, List.getElem?_cons_zero, List.getElem?_cons_succ] at hp90
                    clear hpb9
                    go_big_quiet ((go_at_call 13; exact Calls.quiet_of_same (KNow.out _)))
                    go_wp2_with fail
                    go_ret
                    exact ⟨rfl, ⟨⟨_, _, _, _, HX.out.drewN nq, by omega, by omega, by omega⟩, HTx.out.drewN nq⟩⟩
              · go_simp
                have hb : Below y3.heap.size y3 (y3.alloc (.cells #[.int .i64 (now + n)] 3)) := (Below.refl _ _).alloc (Nat.le_refl _) _
                have hf := Has.tight (Has.fresh y3 #[.int .i64 (now + n)] 3)
                have hs : y3.heap.size < (y3.alloc (.cells #[.int .i64 (now + n)] 3)).heap.size := by simp
                obtain ⟨y7, hwy⟩ : ∃ x, y3.alloc (.cells #[.int .i64 (now + n)] 3) = x := ⟨_, rfl⟩
                rw [hwy] at hb hf hs ⊢
                clear hwy
                have HH23_7 := Lib.hid (show Has y7 y7.heap.size (some ⟨y3.heap.size, 0, none⟩) (ics [(now + n)]) from hf)
                have HB7 := Lib.hid (HB3.out.trans (hb.mono HB3.out.size))
                have HL23_7 := Lib.hid hs
                have HO10_7 := Lib.hid (below_own HO10_3.out hb (Nat.le_refl _))
                clear hb hf hs
                have kb7 := Blk.below HPb.out HB7.out HPb.out.lt
                have ka7 := Blk.below HAc.out HB7.out HAc.out.lt
                have q1 := kb7.cell 1
                have q2 := kb7.cell 2
                have q0 := kb7.cell 0
                have a1 := ka7.cell 1
                have a2 := ka7.cell 2
                simp only [List.getElem?_toArray, List.getElem?_cons_zero, List.getElem?_cons_succ] at q1 q2 q0 a1 a2
                refine hK.out _ _ (fun _ => ⟨q1, q2, q0, a1, a2⟩) (fun hHeld => ?_)
                clear hK K q1 q2 q0 a1 a2 kb7 ka7
                have hHeld := hHeld (by decide)
                clear hHeld
                try simp only [Act.put, List.setIfInBounds_toArray, List.set_cons_zero, List.set_cons_succ]
                refine wpM_ready (rs := [15]) (by kernel_rfl) (by simp) ?_
                refine AllM.cons rfl (fun K hK => ?_) AllM.nil
                · go_simp
                  go_at_call 22
                  refine (copy_ints A2 c2 m wc.heap.size (L'.map Prod.snd) y7 (by rw [List.length_map]; exact HMm.out) (by have := HM9.out; omega) (HI2.out.below HB7.out (Nat.le_refl _)) HN2.out).mono ?_
                  rintro e y8 ⟨v15_, rfl, ho, hb⟩
                  obtain ⟨A15_8, c15_8, rfl, -, -⟩ := own_slice ho
                  have HO15_8 := Lib.hid (own_low9 ho HB7.out.size)
                  have HB8 := Lib.hid (HB7.out.trans (hb.mono HB7.out.size))
                  have HE15_8 := Lib.hid (show ∀ g, (Value.slice A10_3 (m + 1) c10_3).ownBlock = some g → (Value.slice A15_8 m c15_8).ownBlock ≠ some g from fun g hg e => by have h1 := (HO10_7.out.lt g hg).2; have h2 := (ho.lt g e).1; omega)
                  have HO10_8 := Lib.hid (below_own HO10_7.out hb (Nat.le_refl _))
                  have HH23_8 := Lib.hid (Has.tight (HH23_7.out.below hb (Nat.le_refl _)))
                  have HL23_8 := Lib.hid (show y3.heap.size < y8.heap.size by have := HL23_7.out; have := hb.size; omega)
                  clear ho hb
                  try (go_wp2_with fail)
                  have kb8 := Blk.below HPb.out HB8.out HPb.out.lt
                  have ka8 := Blk.below HAc.out HB8.out HAc.out.lt
                  have q1 := kb8.cell 1
                  have q2 := kb8.cell 2
                  have q0 := kb8.cell 0
                  have a1 := ka8.cell 1
                  have a2 := ka8.cell 2
                  simp only [List.getElem?_toArray, List.getElem?_cons_zero, List.getElem?_cons_succ] at q1 q2 q0 a1 a2
                  refine hK.out _ _ (fun _ => ⟨q1, q2, q0, a1, a2⟩) (fun hHeld => ?_)
                  clear hK K q1 q2 q0 a1 a2 kb8 ka8
                  have hHeld := hHeld (by decide)
                  clear hHeld
                  try simp only [Act.put, List.setIfInBounds_toArray, List.set_cons_zero, List.set_cons_succ]
                  refine wpM_ready (rs := [24]) (by kernel_rfl) (by simp) ?_
                  refine AllM.cons rfl (fun K hK => ?_) AllM.nil
                  · refine step_app (w := y8) rfl (.tmp 149) (.tmp 157) 22 rfl wc.heap.size 3 i0 (.int .i64 0) 8 Try.underlying22 hi hx0 hx1 hx2 rfl (.slice A15_8 m c15_8) m (ics (L'.map Prod.snd)) rfl HO15_8.out y8.heap.size (some ⟨y3.heap.size, 0, none⟩) 1 1 (ics [(now + n)]) rfl rfl HH23_8.out (fun e => nomatch e) (ics_one _) HM1.out HM2.out HB8.out.size ?_
                    intro vb y9 ho hg hl
                    obtain ⟨A24_9, c24_9, rfl, -, -⟩ := own_slice ho
                    have HO24_9 := Lib.hid (show y9.ownsRow wc.heap.size 3 1 (.slice A24_9 (m + 1) c24_9) (m + 1) (ics (L'.map Prod.snd ++ [(now + n)])) from by rw [ics_app]; exact ho)
                    have HB9 := Lib.hid (HB8.out.grown hg HB8.out.size (fun g hg => (HO15_8.out.lt g hg).1))
                    have ht : Turn (fun k => (Value.slice A15_8 m c15_8).ownBlock = some k) y8 y9 := Turn.grown (Turn.refl _ _) hg (fun k hk _ => hk)
                    have HO10_9 := Lib.hid (ht.own HO10_8.out (fun g hg e => HE15_8.out g hg e))
                    clear ho hg hl ht
                    have kb9 := Blk.below HPb.out HB9.out HPb.out.lt
                    have ka9 := Blk.below HAc.out HB9.out HAc.out.lt
                    have q1 := kb9.cell 1
                    have q2 := kb9.cell 2
                    have q0 := kb9.cell 0
                    have a1 := ka9.cell 1
                    have a2 := ka9.cell 2
                    simp only [List.getElem?_toArray, List.getElem?_cons_zero, List.getElem?_cons_succ] at q1 q2 q0 a1 a2
                    refine hK.out _ _ (fun _ => ⟨q1, q2, q0, a1, a2⟩) (fun hHeld => ?_)
                    clear hK K q1 q2 q0 a1 a2 kb9 ka9
                    have hHeld := hHeld (by decide)
                    clear hHeld
                    try simp only [Act.put, List.setIfInBounds_toArray, List.set_cons_zero, List.set_cons_succ]
                    refine wpM_pure (i := 25) (v := ?_) rfl (by kernel_rfl) (by kernel_rfl) (by kernel_rfl) (by kernel_rfl) (fun _ _ _ h => h) (Or.inl ⟨by rfl, ?_⟩) ?_
                    rotate_left
                    · (intro w hSw; first | (go_simp; done) | (go_simp; with_reducible rfl))
                    try simp only [Act.put, List.setIfInBounds_toArray, List.set_cons_zero, List.set_cons_succ]
                    refine wpM_pure (i := 26) (v := ?_) rfl (by kernel_rfl) (by kernel_rfl) (by kernel_rfl) (by kernel_rfl) (fun _ _ _ h => h) (Or.inl ⟨by rfl, ?_⟩) ?_
                    rotate_left
                    · (intro w hSw; first | (go_simp; done) | (go_simp; with_reducible rfl))
                    try simp only [Act.put, List.setIfInBounds_toArray, List.set_cons_zero, List.set_cons_succ]
                    have kb := Blk.below HPb.out HB9.out HPb.out.lt
                    have r1 := kb.frozen 1
                    have hbl := HB9.out
                    refine wpM_ready (rs := [27]) (by kernel_rfl) (by simp) ?_
                    refine AllM.cons rfl (fun K hK => ?_) AllM.nil
                    go_simp
                    refine hK.out _ _ (fun h => absurd h (by decide)) (fun hHeld => ?_)
                    clear hK K hHeld
                    try simp only [Act.put, List.setIfInBounds_toArray, List.set_cons_zero, List.set_cons_succ]
                    refine wpM_pure (i := 28) (v := ?_) rfl (by kernel_rfl) (by kernel_rfl) (by kernel_rfl) (by kernel_rfl) (fun _ _ _ h => h) (Or.inl ⟨by rfl, ?_⟩) ?_
                    rotate_left
                    · (intro w hSw; first | (go_simp; done) | (go_simp; with_reducible rfl))
                    try simp only [Act.put, List.setIfInBounds_toArray, List.set_cons_zero, List.set_cons_succ]
                    refine wpM_pure (i := 29) (v := ?_) rfl (by kernel_rfl) (by kernel_rfl) (by kernel_rfl) (by kernel_rfl) (fun _ _ _ h => h) (Or.inl ⟨by rfl, ?_⟩) ?_
                    rotate_left
                    · (intro w hSw; first | (go_simp; done) | (go_simp; with_reducible rfl))
                    try simp only [Act.put, List.setIfInBounds_toArray, List.set_cons_zero, List.set_cons_succ]
                    have kb2 := kb.set_ 1 (.slice A10_3 (m + 1) c10_3)
                    have r2 := kb2.frozen 2
                    refine wpM_ready (rs := [30]) (by kernel_rfl) (by simp) ?_
                    refine AllM.cons rfl (fun K hK => ?_) AllM.nil
                    go_simp
                    refine hK.out _ _ (fun h => absurd h (by decide)) (fun hHeld => ?_)
                    clear hK K hHeld
                    try simp only [Act.put, List.setIfInBounds_toArray, List.set_cons_zero, List.set_cons_succ]
                    refine wpM_done (by kernel_rfl) ?_ _
                    have kb3 := kb2.set_ 2 (.slice A24_9 (m + 1) c24_9)
                    simp only [List.setIfInBounds_toArray, List.set_cons_zero, List.set_cons_succ] at kb3
                    have ne10 := own_blk_ne HO10_9.out kb (by decide)
                    have ne24 := own_blk_ne HO24_9.out kb (by decide)
                    have o10 := own_far (own_far HO10_9.out (p := ⟨pb, 1, none⟩) ne10 (.slice A10_3 (m + 1) c10_3)) (p := ⟨pb, 2, none⟩) ne10 (.slice A24_9 (m + 1) c24_9)
                    have o24 := own_far (own_far HO24_9.out (p := ⟨pb, 1, none⟩) ne24 (.slice A10_3 (m + 1) c10_3)) (p := ⟨pb, 2, none⟩) ne24 (.slice A24_9 (m + 1) c24_9)
                    have htz : Turn (fun k => k = pb) wc ((y9.setCell ⟨pb, 1, none⟩ (.slice A10_3 (m + 1) c10_3)).setCell ⟨pb, 2, none⟩ (.slice A24_9 (m + 1) c24_9)) := ((Turn.of_below (Z := fun k => k = pb) hbl).set_ ⟨pb, 1, none⟩ _ rfl).set_ ⟨pb, 2, none⟩ _ rfl
                    obtain ⟨wz, hwz⟩ : ∃ wz, (y9.setCell ⟨pb, 1, none⟩ (.slice A10_3 (m + 1) c10_3)).setCell ⟨pb, 2, none⟩ (.slice A24_9 (m + 1) c24_9) = wz := ⟨_, rfl⟩
                    rw [hwz] at kb3 o10 o24 htz ⊢
                    have HX := Lib.hid (put_done HJ5.out HMm.out kb3 o10 o24 htz)
                    have HTx := Lib.hid (HT5.out.trans (htz.mono (Z' := fun k => k = cb ∨ k = bm ∨ k = pb) (fun _ _ h => Or.inr (Or.inr h))))
                    clear kb kb2 kb3 r1 r2 hbl ne10 ne24 o10 o24 htz hwz
                    go_wp2_with fail
                    have KNow := Lib.hid (fun q => (now_any (HX.out.drewN q).cs.ck).mono (R' := fun e w' => e = .returned (.int .i64 _) ∧ w' = wz.drewN q) (fun _ _ he => ⟨he.1, he.2.symm⟩))
                    obtain ⟨pv1, pv2, hpb9, -, -⟩ := HX.out.pl.ex
                    have hp90 := hpb9.cell 0
                    simp only [List.getElem?_toArray, List.getElem?_cons_zero, List.getElem?_cons_succ] at hp90
                    clear hpb9
                    go_big_quiet ((go_at_call 13; exact Calls.quiet_of_same (KNow.out _)))
                    go_wp2_with fail
                    go_ret
                    exact ⟨rfl, ⟨⟨_, _, _, _, HX.out.drewN nq, by omega, by omega, by omega⟩, HTx.out.drewN nq⟩⟩
            · go_simp
              have hb : Below y2.heap.size y2 (y2.alloc (.cells #[.int .i64 (now + n)] 3)) := (Below.refl _ _).alloc (Nat.le_refl _) _
              have hf := Has.tight (Has.fresh y2 #[.int .i64 (now + n)] 3)
              have hs : y2.heap.size < (y2.alloc (.cells #[.int .i64 (now + n)] 3)).heap.size := by simp
              obtain ⟨y10, hwy⟩ : ∃ x, y2.alloc (.cells #[.int .i64 (now + n)] 3) = x := ⟨_, rfl⟩
              rw [hwy] at hb hf hs ⊢
              clear hwy
              have HH23_10 := Lib.hid (show Has y10 y10.heap.size (some ⟨y2.heap.size, 0, none⟩) (ics [(now + n)]) from hf)
              have HB10 := Lib.hid (HB2.out.trans (hb.mono HB2.out.size))
              have HE23_10 := Lib.hid (show (Value.slice A6_1 m c6_1).ownBlock ≠ some y2.heap.size from fun e => absurd (HO6_2.out.lt _ e).2 (Nat.lt_irrefl _))
              have HL23_10 := Lib.hid hs
              have HO6_10 := Lib.hid (below_own HO6_2.out hb (Nat.le_refl _))
              have HH9_10 := Lib.hid (Has.tight (HH9_2.out.below hb (Nat.le_refl _)))
              clear hb hf hs
              have kb10 := Blk.below HPb.out HB10.out HPb.out.lt
              have ka10 := Blk.below HAc.out HB10.out HAc.out.lt
              have q1 := kb10.cell 1
              have q2 := kb10.cell 2
              have q0 := kb10.cell 0
              have a1 := ka10.cell 1
              have a2 := ka10.cell 2
              simp only [List.getElem?_toArray, List.getElem?_cons_zero, List.getElem?_cons_succ] at q1 q2 q0 a1 a2
              refine hK.out _ _ (fun _ => ⟨q1, q2, q0, a1, a2⟩) (fun hHeld => ?_)
              clear hK K q1 q2 q0 a1 a2 kb10 ka10
              have hHeld := hHeld (by decide)
              clear hHeld
              try simp only [Act.put, List.setIfInBounds_toArray, List.set_cons_zero, List.set_cons_succ]
              refine wpM_ready (rs := [10]) (by kernel_rfl) (by simp) ?_
              refine AllM.cons rfl (fun K hK => ?_) AllM.nil
              · refine step_app (w := y10) rfl (.tmp 140) (.tmp 143) 22 rfl wc.heap.size 3 i0 (.int .i64 0) 8 Try.underlying22 hi hx0 hx1 hx2 rfl (.slice A6_1 m c6_1) m (ics (L'.map Prod.fst)) rfl HO6_10.out y10.heap.size (some ⟨y1.heap.size, 0, none⟩) 1 1 (ics [id]) rfl rfl HH9_10.out (fun e => nomatch e) (ics_one _) HM1.out HM2.out HB10.out.size ?_
                intro vb y11 ho hg hl
                obtain ⟨A10_11, c10_11, rfl, -, -⟩ := own_slice ho
                have HO10_11 := Lib.hid (show y11.ownsRow wc.heap.size 3 1 (.slice A10_11 (m + 1) c10_11) (m + 1) (ics (L'.map Prod.fst ++ [id])) from by rw [ics_app]; exact ho)
                have HB11 := Lib.hid (HB10.out.grown hg HB10.out.size (fun g hg => (HO6_10.out.lt g hg).1))
                have ht : Turn (fun k => (Value.slice A6_1 m c6_1).ownBlock = some k) y10 y11 := Turn.grown (Turn.refl _ _) hg (fun k hk _ => hk)
                have HH23_11 := Lib.hid (Has.tight (has_apart HH23_10.out ht (fun ad he _ hz => by cases he; exact HE23_10.out hz)))
                have HL23_11 := Lib.hid (show y2.heap.size < y11.heap.size by have := HL23_10.out; have := ht.size; omega)
                clear ho hg hl ht
                have kb11 := Blk.below HPb.out HB11.out HPb.out.lt
                have ka11 := Blk.below HAc.out HB11.out HAc.out.lt
                have q1 := kb11.cell 1
                have q2 := kb11.cell 2
                have q0 := kb11.cell 0
                have a1 := ka11.cell 1
                have a2 := ka11.cell 2
                simp only [List.getElem?_toArray, List.getElem?_cons_zero, List.getElem?_cons_succ] at q1 q2 q0 a1 a2
                refine hK.out _ _ (fun _ => ⟨q1, q2, q0, a1, a2⟩) (fun hHeld => ?_)
                clear hK K q1 q2 q0 a1 a2 kb11 ka11
                have hHeld := hHeld (by decide)
                clear hHeld
                try simp only [Act.put, List.setIfInBounds_toArray, List.set_cons_zero, List.set_cons_succ]
                refine wpM_ready (rs := [15]) (by kernel_rfl) (by simp) ?_
                refine AllM.cons rfl (fun K hK => ?_) AllM.nil
                · go_simp
                  go_at_call 22
                  refine (copy_ints A2 c2 m wc.heap.size (L'.map Prod.snd) y11 (by rw [List.length_map]; exact HMm.out) (by have := HM9.out; omega) (HI2.out.below HB11.out (Nat.le_refl _)) HN2.out).mono ?_
                  rintro e y12 ⟨v15_, rfl, ho, hb⟩
                  obtain ⟨A15_12, c15_12, rfl, -, -⟩ := own_slice ho
                  have HO15_12 := Lib.hid (own_low9 ho HB11.out.size)
                  have HB12 := Lib.hid (HB11.out.trans (hb.mono HB11.out.size))
                  have HE15_12 := Lib.hid (show ∀ g, (Value.slice A10_11 (m + 1) c10_11).ownBlock = some g → (Value.slice A15_12 m c15_12).ownBlock ≠ some g from fun g hg e => by have h1 := (HO10_11.out.lt g hg).2; have h2 := (ho.lt g e).1; omega)
                  have HO10_12 := Lib.hid (below_own HO10_11.out hb (Nat.le_refl _))
                  have HH23_12 := Lib.hid (Has.tight (HH23_11.out.below hb (Nat.le_refl _)))
                  have HL23_12 := Lib.hid (show y2.heap.size < y12.heap.size by have := HL23_11.out; have := hb.size; omega)
                  clear ho hb
                  try (go_wp2_with fail)
                  have kb12 := Blk.below HPb.out HB12.out HPb.out.lt
                  have ka12 := Blk.below HAc.out HB12.out HAc.out.lt
                  have q1 := kb12.cell 1
                  have q2 := kb12.cell 2
                  have q0 := kb12.cell 0
                  have a1 := ka12.cell 1
                  have a2 := ka12.cell 2
                  simp only [List.getElem?_toArray, List.getElem?_cons_zero, List.getElem?_cons_succ] at q1 q2 q0 a1 a2
                  refine hK.out _ _ (fun _ => ⟨q1, q2, q0, a1, a2⟩) (fun hHeld => ?_)
                  clear hK K q1 q2 q0 a1 a2 kb12 ka12
                  have hHeld := hHeld (by decide)
                  clear hHeld
                  try simp only [Act.put, List.setIfInBounds_toArray, List.set_cons_zero, List.set_cons_succ]
                  refine wpM_ready (rs := [24]) (by kernel_rfl) (by simp) ?_
                  refine AllM.cons rfl (fun K hK => ?_) AllM.nil
                  · refine step_app (w := y12) rfl (.tmp 149) (.tmp 157) 22 rfl wc.heap.size 3 i0 (.int .i64 0) 8 Try.underlying22 hi hx0 hx1 hx2 rfl (.slice A15_12 m c15_12) m (ics (L'.map Prod.snd)) rfl HO15_12.out y12.heap.size (some ⟨y2.heap.size, 0, none⟩) 1 1 (ics [(now + n)]) rfl rfl HH23_12.out (fun e => nomatch e) (ics_one _) HM1.out HM2.out HB12.out.size ?_
                    intro vb y13 ho hg hl
                    obtain ⟨A24_13, c24_13, rfl, -, -⟩ := own_slice ho
                    have HO24_13 := Lib.hid (show y13.ownsRow wc.heap.size 3 1 (.slice A24_13 (m + 1) c24_13) (m + 1) (ics (L'.map Prod.snd ++ [(now + n)])) from by rw [ics_app]; exact ho)
                    have HB13 := Lib.hid (HB12.out.grown hg HB12.out.size (fun g hg => (HO15_12.out.lt g hg).1))
                    have ht : Turn (fun k => (Value.slice A15_12 m c15_12).ownBlock = some k) y12 y13 := Turn.grown (Turn.refl _ _) hg (fun k hk _ => hk)
                    have HO10_13 := Lib.hid (ht.own HO10_12.out (fun g hg e => HE15_12.out g hg e))
                    clear ho hg hl ht
                    have kb13 := Blk.below HPb.out HB13.out HPb.out.lt
                    have ka13 := Blk.below HAc.out HB13.out HAc.out.lt
                    have q1 := kb13.cell 1
                    have q2 := kb13.cell 2
                    have q0 := kb13.cell 0
                    have a1 := ka13.cell 1
                    have a2 := ka13.cell 2
                    simp only [List.getElem?_toArray, List.getElem?_cons_zero, List.getElem?_cons_succ] at q1 q2 q0 a1 a2
                    refine hK.out _ _ (fun _ => ⟨q1, q2, q0, a1, a2⟩) (fun hHeld => ?_)
                    clear hK K q1 q2 q0 a1 a2 kb13 ka13
                    have hHeld := hHeld (by decide)
                    clear hHeld
                    try simp only [Act.put, List.setIfInBounds_toArray, List.set_cons_zero, List.set_cons_succ]
                    refine wpM_pure (i := 25) (v := ?_) rfl (by kernel_rfl) (by kernel_rfl) (by kernel_rfl) (by kernel_rfl) (fun _ _ _ h => h) (Or.inl ⟨by rfl, ?_⟩) ?_
                    rotate_left
                    · (intro w hSw; first | (go_simp; done) | (go_simp; with_reducible rfl))
                    try simp only [Act.put, List.setIfInBounds_toArray, List.set_cons_zero, List.set_cons_succ]
                    refine wpM_pure (i := 26) (v := ?_) rfl (by kernel_rfl) (by kernel_rfl) (by kernel_rfl) (by kernel_rfl) (fun _ _ _ h => h) (Or.inl ⟨by rfl, ?_⟩) ?_
                    rotate_left
                    · (intro w hSw; first | (go_simp; done) | (go_simp; with_reducible rfl))
                    try simp only [Act.put, List.setIfInBounds_toArray, List.set_cons_zero, List.set_cons_succ]
                    have kb := Blk.below HPb.out HB13.out HPb.out.lt
                    have r1 := kb.frozen 1
                    have hbl := HB13.out
                    refine wpM_ready (rs := [27]) (by kernel_rfl) (by simp) ?_
                    refine AllM.cons rfl (fun K hK => ?_) AllM.nil
                    go_simp
                    refine hK.out _ _ (fun h => absurd h (by decide)) (fun hHeld => ?_)
                    clear hK K hHeld
                    try simp only [Act.put, List.setIfInBounds_toArray, List.set_cons_zero, List.set_cons_succ]
                    refine wpM_pure (i := 28) (v := ?_) rfl (by kernel_rfl) (by kernel_rfl) (by kernel_rfl) (by kernel_rfl) (fun _ _ _ h => h) (Or.inl ⟨by rfl, ?_⟩) ?_
                    rotate_left
                    · (intro w hSw; first | (go_simp; done) | (go_simp; with_reducible rfl))
                    try simp only [Act.put, List.setIfInBounds_toArray, List.set_cons_zero, List.set_cons_succ]
                    refine wpM_pure (i := 29) (v := ?_) rfl (by kernel_rfl) (by kernel_rfl) (by kernel_rfl) (by kernel_rfl) (fun _ _ _ h => h) (Or.inl ⟨by rfl, ?_⟩) ?_
                    rotate_left
                    · (intro w hSw; first | (go_simp; done) | (go_simp; with_reducible rfl))
                    try simp only [Act.put, List.setIfInBounds_toArray, List.set_cons_zero, List.set_cons_succ]
                    have kb2 := kb.set_ 1 (.slice A10_11 (m + 1) c10_11)
                    have r2 := kb2.frozen 2
                    refine wpM_ready (rs := [30]) (by kernel_rfl) (by simp) ?_
                    refine AllM.cons rfl (fun K hK => ?_) AllM.nil
                    go_simp
                    refine hK.out _ _ (fun h => absurd h (by decide)) (fun hHeld => ?_)
                    clear hK K hHeld
                    try simp only [Act.put, List.setIfInBounds_toArray, List.set_cons_zero, List.set_cons_succ]
                    refine wpM_done (by kernel_rfl) ?_ _
                    have kb3 := kb2.set_ 2 (.slice A24_13 (m + 1) c24_13)
                    simp only [List.setIfInBounds_toArray, List.set_cons_zero, List.set_cons_succ] at kb3
                    have ne10 := own_blk_ne HO10_13.out kb (by decide)
                    have ne24 := own_blk_ne HO24_13.out kb (by decide)
                    have o10 := own_far (own_far HO10_13.out (p := ⟨pb, 1, none⟩) ne10 (.slice A10_11 (m + 1) c10_11)) (p := ⟨pb, 2, none⟩) ne10 (.slice A24_13 (m + 1) c24_13)
                    have o24 := own_far (own_far HO24_13.out (p := ⟨pb, 1, none⟩) ne24 (.slice A10_11 (m + 1) c10_11)) (p := ⟨pb, 2, none⟩) ne24 (.slice A24_13 (m + 1) c24_13)
                    have htz : Turn (fun k => k = pb) wc ((y13.setCell ⟨pb, 1, none⟩ (.slice A10_11 (m + 1) c10_11)).setCell ⟨pb, 2, none⟩ (.slice A24_13 (m + 1) c24_13)) := ((Turn.of_below (Z := fun k => k = pb) hbl).set_ ⟨pb, 1, none⟩ _ rfl).set_ ⟨pb, 2, none⟩ _ rfl
                    obtain ⟨wz, hwz⟩ : ∃ wz, (y13.setCell ⟨pb, 1, none⟩ (.slice A10_11 (m + 1) c10_11)).setCell ⟨pb, 2, none⟩ (.slice A24_13 (m + 1) c24_13) = wz := ⟨_, rfl⟩
                    rw [hwz] at kb3 o10 o24 htz ⊢
                    have HX := Lib.hid (put_done HJ5.out HMm.out kb3 o10 o24 htz)
                    have HTx := Lib.hid (HT5.out.trans (htz.mono (Z' := fun k => k = cb ∨ k = bm ∨ k = pb) (fun _ _ h => Or.inr (Or.inr h))))
                    clear kb kb2 kb3 r1 r2 hbl ne10 ne24 o10 o24 htz hwz
                    go_wp2_with fail
                    have KNow := Lib.hid (fun q => (now_any (HX.out.drewN q).cs.ck).mono (R' := fun e w' => e = .returned (.int .i64 _) ∧ w' = wz.drewN q) (fun _ _ he => ⟨he.1, he.2.symm⟩))
                    obtain ⟨pv1, pv2, hpb9, -, -⟩ := HX.out.pl.ex
                    have hp90 := hpb9.cell 0
                    simp only [List.getElem?_toArray, List.getElem?_cons_zero, List.getElem?_cons_succ] at hp90
                    clear hpb9
                    go_big_quiet ((go_at_call 13; exact Calls.quiet_of_same (KNow.out _)))
                    go_wp2_with fail
                    go_ret
                    exact ⟨rfl, ⟨⟨_, _, _, _, HX.out.drewN nq, by omega, by omega, by omega⟩, HTx.out.drewN nq⟩⟩
          · go_simp
            have hb : Below y1.heap.size y1 (y1.alloc (.cells #[.int .i64 (now + n)] 3)) := (Below.refl _ _).alloc (Nat.le_refl _) _
            have hf := Has.tight (Has.fresh y1 #[.int .i64 (now + n)] 3)
            have hs : y1.heap.size < (y1.alloc (.cells #[.int .i64 (now + n)] 3)).heap.size := by simp
            obtain ⟨y14, hwy⟩ : ∃ x, y1.alloc (.cells #[.int .i64 (now + n)] 3) = x := ⟨_, rfl⟩
            rw [hwy] at hb hf hs ⊢
            clear hwy
            have HH23_14 := Lib.hid (show Has y14 y14.heap.size (some ⟨y1.heap.size, 0, none⟩) (ics [(now + n)]) from hf)
            have HB14 := Lib.hid (HB1.out.trans (hb.mono HB1.out.size))
            have HE23_14 := Lib.hid (show (Value.slice A6_1 m c6_1).ownBlock ≠ some y1.heap.size from fun e => absurd (HO6_1.out.lt _ e).2 (Nat.lt_irrefl _))
            have HL23_14 := Lib.hid hs
            have HO6_14 := Lib.hid (below_own HO6_1.out hb (Nat.le_refl _))
            clear hb hf hs
            have kb14 := Blk.below HPb.out HB14.out HPb.out.lt
            have ka14 := Blk.below HAc.out HB14.out HAc.out.lt
            have q1 := kb14.cell 1
            have q2 := kb14.cell 2
            have q0 := kb14.cell 0
            have a1 := ka14.cell 1
            have a2 := ka14.cell 2
            simp only [List.getElem?_toArray, List.getElem?_cons_zero, List.getElem?_cons_succ] at q1 q2 q0 a1 a2
            refine hK.out _ _ (fun _ => ⟨q1, q2, q0, a1, a2⟩) (fun hHeld => ?_)
            clear hK K q1 q2 q0 a1 a2 kb14 ka14
            have hHeld := hHeld (by decide)
            clear hHeld
            try simp only [Act.put, List.setIfInBounds_toArray, List.set_cons_zero, List.set_cons_succ]
            refine wpM_ready (rs := [9]) (by kernel_rfl) (by simp) ?_
            refine AllM.cons rfl (fun K hK => ?_) AllM.nil
            · go_simp
              have hb : Below y14.heap.size y14 (y14.alloc (.cells #[.int .i64 id] 3)) := (Below.refl _ _).alloc (Nat.le_refl _) _
              have hf := Has.tight (Has.fresh y14 #[.int .i64 id] 3)
              have hs : y14.heap.size < (y14.alloc (.cells #[.int .i64 id] 3)).heap.size := by simp
              obtain ⟨y15, hwy⟩ : ∃ x, y14.alloc (.cells #[.int .i64 id] 3) = x := ⟨_, rfl⟩
              rw [hwy] at hb hf hs ⊢
              clear hwy
              have HH9_15 := Lib.hid (show Has y15 y15.heap.size (some ⟨y14.heap.size, 0, none⟩) (ics [id]) from hf)
              have HB15 := Lib.hid (HB14.out.trans (hb.mono HB14.out.size))
              have HO6_15 := Lib.hid (below_own HO6_14.out hb (Nat.le_refl _))
              have HH23_15 := Lib.hid (Has.tight (HH23_14.out.below hb (Nat.le_refl _)))
              have HL23_15 := Lib.hid (show y1.heap.size < y15.heap.size by have := HL23_14.out; have := hb.size; omega)
              clear hb hf hs
              have kb15 := Blk.below HPb.out HB15.out HPb.out.lt
              have ka15 := Blk.below HAc.out HB15.out HAc.out.lt
              have q1 := kb15.cell 1
              have q2 := kb15.cell 2
              have q0 := kb15.cell 0
              have a1 := ka15.cell 1
              have a2 := ka15.cell 2
              simp only [List.getElem?_toArray, List.getElem?_cons_zero, List.getElem?_cons_succ] at q1 q2 q0 a1 a2
              refine hK.out _ _ (fun _ => ⟨q1, q2, q0, a1, a2⟩) (fun hHeld => ?_)
              clear hK K q1 q2 q0 a1 a2 kb15 ka15
              have hHeld := hHeld (by decide)
              clear hHeld
              try simp only [Act.put, List.setIfInBounds_toArray, List.set_cons_zero, List.set_cons_succ]
              refine wpM_ready (rs := [10]) (by kernel_rfl) (by simp) ?_
              refine AllM.cons rfl (fun K hK => ?_) AllM.nil
              · refine step_app (w := y15) rfl (.tmp 140) (.tmp 143) 22 rfl wc.heap.size 3 i0 (.int .i64 0) 8 Try.underlying22 hi hx0 hx1 hx2 rfl (.slice A6_1 m c6_1) m (ics (L'.map Prod.fst)) rfl HO6_15.out y15.heap.size (some ⟨y14.heap.size, 0, none⟩) 1 1 (ics [id]) rfl rfl HH9_15.out (fun e => nomatch e) (ics_one _) HM1.out HM2.out HB15.out.size ?_
                intro vb y16 ho hg hl
                obtain ⟨A10_16, c10_16, rfl, -, -⟩ := own_slice ho
                have HO10_16 := Lib.hid (show y16.ownsRow wc.heap.size 3 1 (.slice A10_16 (m + 1) c10_16) (m + 1) (ics (L'.map Prod.fst ++ [id])) from by rw [ics_app]; exact ho)
                have HB16 := Lib.hid (HB15.out.grown hg HB15.out.size (fun g hg => (HO6_15.out.lt g hg).1))
                have ht : Turn (fun k => (Value.slice A6_1 m c6_1).ownBlock = some k) y15 y16 := Turn.grown (Turn.refl _ _) hg (fun k hk _ => hk)
                have HH23_16 := Lib.hid (Has.tight (has_apart HH23_15.out ht (fun ad he _ hz => by cases he; exact HE23_14.out hz)))
                have HL23_16 := Lib.hid (show y1.heap.size < y16.heap.size by have := HL23_15.out; have := ht.size; omega)
                clear ho hg hl ht
                have kb16 := Blk.below HPb.out HB16.out HPb.out.lt
                have ka16 := Blk.below HAc.out HB16.out HAc.out.lt
                have q1 := kb16.cell 1
                have q2 := kb16.cell 2
                have q0 := kb16.cell 0
                have a1 := ka16.cell 1
                have a2 := ka16.cell 2
                simp only [List.getElem?_toArray, List.getElem?_cons_zero, List.getElem?_cons_succ] at q1 q2 q0 a1 a2
                refine hK.out _ _ (fun _ => ⟨q1, q2, q0, a1, a2⟩) (fun hHeld => ?_)
                clear hK K q1 q2 q0 a1 a2 kb16 ka16
                have hHeld := hHeld (by decide)
                clear hHeld
                try simp only [Act.put, List.setIfInBounds_toArray, List.set_cons_zero, List.set_cons_succ]
                refine wpM_ready (rs := [15]) (by kernel_rfl) (by simp) ?_
                refine AllM.cons rfl (fun K hK => ?_) AllM.nil
                · go_simp
                  go_at_call 22
                  refine (copy_ints A2 c2 m wc.heap.size (L'.map Prod.snd) y16 (by rw [List.length_map]; exact HMm.out) (by have := HM9.out; omega) (HI2.out.below HB16.out (Nat.le_refl _)) HN2.out).mono ?_
                  rintro e y17 ⟨v15_, rfl, ho, hb⟩
                  obtain ⟨A15_17, c15_17, rfl, -, -⟩ := own_slice ho
                  have HO15_17 := Lib.hid (own_low9 ho HB16.out.size)
                  have HB17 := Lib.hid (HB16.out.trans (hb.mono HB16.out.size))
                  have HE15_17 := Lib.hid (show ∀ g, (Value.slice A10_16 (m + 1) c10_16).ownBlock = some g → (Value.slice A15_17 m c15_17).ownBlock ≠ some g from fun g hg e => by have h1 := (HO10_16.out.lt g hg).2; have h2 := (ho.lt g e).1; omega)
                  have HO10_17 := Lib.hid (below_own HO10_16.out hb (Nat.le_refl _))
                  have HH23_17 := Lib.hid (Has.tight (HH23_16.out.below hb (Nat.le_refl _)))
                  have HL23_17 := Lib.hid (show y1.heap.size < y17.heap.size by have := HL23_16.out; have := hb.size; omega)
                  clear ho hb
                  try (go_wp2_with fail)
                  have kb17 := Blk.below HPb.out HB17.out HPb.out.lt
                  have ka17 := Blk.below HAc.out HB17.out HAc.out.lt
                  have q1 := kb17.cell 1
                  have q2 := kb17.cell 2
                  have q0 := kb17.cell 0
                  have a1 := ka17.cell 1
                  have a2 := ka17.cell 2
                  simp only [List.getElem?_toArray, List.getElem?_cons_zero, List.getElem?_cons_succ] at q1 q2 q0 a1 a2
                  refine hK.out _ _ (fun _ => ⟨q1, q2, q0, a1, a2⟩) (fun hHeld => ?_)
                  clear hK K q1 q2 q0 a1 a2 kb17 ka17
                  have hHeld := hHeld (by decide)
                  clear hHeld
                  try simp only [Act.put, List.setIfInBounds_toArray, List.set_cons_zero, List.set_cons_succ]
                  refine wpM_ready (rs := [24]) (by kernel_rfl) (by simp) ?_
                  refine AllM.cons rfl (fun K hK => ?_) AllM.nil
                  · refine step_app (w := y17) rfl (.tmp 149) (.tmp 157) 22 rfl wc.heap.size 3 i0 (.int .i64 0) 8 Try.underlying22 hi hx0 hx1 hx2 rfl (.slice A15_17 m c15_17) m (ics (L'.map Prod.snd)) rfl HO15_17.out y17.heap.size (some ⟨y1.heap.size, 0, none⟩) 1 1 (ics [(now + n)]) rfl rfl HH23_17.out (fun e => nomatch e) (ics_one _) HM1.out HM2.out HB17.out.size ?_
                    intro vb y18 ho hg hl
                    obtain ⟨A24_18, c24_18, rfl, -, -⟩ := own_slice ho
                    have HO24_18 := Lib.hid (show y18.ownsRow wc.heap.size 3 1 (.slice A24_18 (m + 1) c24_18) (m + 1) (ics (L'.map Prod.snd ++ [(now + n)])) from by rw [ics_app]; exact ho)
                    have HB18 := Lib.hid (HB17.out.grown hg HB17.out.size (fun g hg => (HO15_17.out.lt g hg).1))
                    have ht : Turn (fun k => (Value.slice A15_17 m c15_17).ownBlock = some k) y17 y18 := Turn.grown (Turn.refl _ _) hg (fun k hk _ => hk)
                    have HO10_18 := Lib.hid (ht.own HO10_17.out (fun g hg e => HE15_17.out g hg e))
                    clear ho hg hl ht
                    have kb18 := Blk.below HPb.out HB18.out HPb.out.lt
                    have ka18 := Blk.below HAc.out HB18.out HAc.out.lt
                    have q1 := kb18.cell 1
                    have q2 := kb18.cell 2
                    have q0 := kb18.cell 0
                    have a1 := ka18.cell 1
                    have a2 := ka18.cell 2
                    simp only [List.getElem?_toArray, List.getElem?_cons_zero, List.getElem?_cons_succ] at q1 q2 q0 a1 a2
                    refine hK.out _ _ (fun _ => ⟨q1, q2, q0, a1, a2⟩) (fun hHeld => ?_)
                    clear hK K q1 q2 q0 a1 a2 kb18 ka18
                    have hHeld := hHeld (by decide)
                    clear hHeld
                    try simp only [Act.put, List.setIfInBounds_toArray, List.set_cons_zero, List.set_cons_succ]
                    refine wpM_pure (i := 25) (v := ?_) rfl (by kernel_rfl) (by kernel_rfl) (by kernel_rfl) (by kernel_rfl) (fun _ _ _ h => h) (Or.inl ⟨by rfl, ?_⟩) ?_
                    rotate_left
                    · (intro w hSw; first | (go_simp; done) | (go_simp; with_reducible rfl))
                    try simp only [Act.put, List.setIfInBounds_toArray, List.set_cons_zero, List.set_cons_succ]
                    refine wpM_pure (i := 26) (v := ?_) rfl (by kernel_rfl) (by kernel_rfl) (by kernel_rfl) (by kernel_rfl) (fun _ _ _ h => h) (Or.inl ⟨by rfl, ?_⟩) ?_
                    rotate_left
                    · (intro w hSw; first | (go_simp; done) | (go_simp; with_reducible rfl))
                    try simp only [Act.put, List.setIfInBounds_toArray, List.set_cons_zero, List.set_cons_succ]
                    have kb := Blk.below HPb.out HB18.out HPb.out.lt
                    have r1 := kb.frozen 1
                    have hbl := HB18.out
                    refine wpM_ready (rs := [27]) (by kernel_rfl) (by simp) ?_
                    refine AllM.cons rfl (fun K hK => ?_) AllM.nil
                    go_simp
                    refine hK.out _ _ (fun h => absurd h (by decide)) (fun hHeld => ?_)
                    clear hK K hHeld
                    try simp only [Act.put, List.setIfInBounds_toArray, List.set_cons_zero, List.set_cons_succ]
                    refine wpM_pure (i := 28) (v := ?_) rfl (by kernel_rfl) (by kernel_rfl) (by kernel_rfl) (by kernel_rfl) (fun _ _ _ h => h) (Or.inl ⟨by rfl, ?_⟩) ?_
                    rotate_left
                    · (intro w hSw; first | (go_simp; done) | (go_simp; with_reducible rfl))
                    try simp only [Act.put, List.setIfInBounds_toArray, List.set_cons_zero, List.set_cons_succ]
                    refine wpM_pure (i := 29) (v := ?_) rfl (by kernel_rfl) (by kernel_rfl) (by kernel_rfl) (by kernel_rfl) (fun _ _ _ h => h) (Or.inl ⟨by rfl, ?_⟩) ?_
                    rotate_left
                    · (intro w hSw; first | (go_simp; done) | (go_simp; with_reducible rfl))
                    try simp only [Act.put, List.setIfInBounds_toArray, List.set_cons_zero, List.set_cons_succ]
                    have kb2 := kb.set_ 1 (.slice A10_16 (m + 1) c10_16)
                    have r2 := kb2.frozen 2
                    refine wpM_ready (rs := [30]) (by kernel_rfl) (by simp) ?_
                    refine AllM.cons rfl (fun K hK => ?_) AllM.nil
                    go_simp
                    refine hK.out _ _ (fun h => absurd h (by decide)) (fun hHeld => ?_)
                    clear hK K hHeld
                    try simp only [Act.put, List.setIfInBounds_toArray, List.set_cons_zero, List.set_cons_succ]
                    refine wpM_done (by kernel_rfl) ?_ _
                    have kb3 := kb2.set_ 2 (.slice A24_18 (m + 1) c24_18)
                    simp only [List.setIfInBounds_toArray, List.set_cons_zero, List.set_cons_succ] at kb3
                    have ne10 := own_blk_ne HO10_18.out kb (by decide)
                    have ne24 := own_blk_ne HO24_18.out kb (by decide)
                    have o10 := own_far (own_far HO10_18.out (p := ⟨pb, 1, none⟩) ne10 (.slice A10_16 (m + 1) c10_16)) (p := ⟨pb, 2, none⟩) ne10 (.slice A24_18 (m + 1) c24_18)
                    have o24 := own_far (own_far HO24_18.out (p := ⟨pb, 1, none⟩) ne24 (.slice A10_16 (m + 1) c10_16)) (p := ⟨pb, 2, none⟩) ne24 (.slice A24_18 (m + 1) c24_18)
                    have htz : Turn (fun k => k = pb) wc ((y18.setCell ⟨pb, 1, none⟩ (.slice A10_16 (m + 1) c10_16)).setCell ⟨pb, 2, none⟩ (.slice A24_18 (m + 1) c24_18)) := ((Turn.of_below (Z := fun k => k = pb) hbl).set_ ⟨pb, 1, none⟩ _ rfl).set_ ⟨pb, 2, none⟩ _ rfl
                    obtain ⟨wz, hwz⟩ : ∃ wz, (y18.setCell ⟨pb, 1, none⟩ (.slice A10_16 (m + 1) c10_16)).setCell ⟨pb, 2, none⟩ (.slice A24_18 (m + 1) c24_18) = wz := ⟨_, rfl⟩
                    rw [hwz] at kb3 o10 o24 htz ⊢
                    have HX := Lib.hid (put_done HJ5.out HMm.out kb3 o10 o24 htz)
                    have HTx := Lib.hid (HT5.out.trans (htz.mono (Z' := fun k => k = cb ∨ k = bm ∨ k = pb) (fun _ _ h => Or.inr (Or.inr h))))
                    clear kb kb2 kb3 r1 r2 hbl ne10 ne24 o10 o24 htz hwz
                    go_wp2_with fail
                    have KNow := Lib.hid (fun q => (now_any (HX.out.drewN q).cs.ck).mono (R' := fun e w' => e = .returned (.int .i64 _) ∧ w' = wz.drewN q) (fun _ _ he => ⟨he.1, he.2.symm⟩))
                    obtain ⟨pv1, pv2, hpb9, -, -⟩ := HX.out.pl.ex
                    have hp90 := hpb9.cell 0
                    simp only [List.getElem?_toArray, List.getElem?_cons_zero, List.getElem?_cons_succ] at hp90
                    clear hpb9
                    go_big_quiet ((go_at_call 13; exact Calls.quiet_of_same (KNow.out _)))
                    go_wp2_with fail
                    go_ret
                    exact ⟨rfl, ⟨⟨_, _, _, _, HX.out.drewN nq, by omega, by omega, by omega⟩, HTx.out.drewN nq⟩⟩
        · go_simp
          have hb : Below wd.heap.size wd (wd.alloc (.cells #[.int .i64 id] 3)) := (Below.refl _ _).alloc (Nat.le_refl _) _
          have hf := Has.tight (Has.fresh wd #[.int .i64 id] 3)
          have hs : wd.heap.size < (wd.alloc (.cells #[.int .i64 id] 3)).heap.size := by simp
          obtain ⟨y19, hwy⟩ : ∃ x, wd.alloc (.cells #[.int .i64 id] 3) = x := ⟨_, rfl⟩
          rw [hwy] at hb hf hs ⊢
          clear hwy
          have HH9_19 := Lib.hid (show Has y19 y19.heap.size (some ⟨wd.heap.size, 0, none⟩) (ics [id]) from hf)
          have HB19 := Lib.hid (HB0.out.trans (hb.mono HB0.out.size))
          clear hb hf hs
          have kb19 := Blk.below HPb.out HB19.out HPb.out.lt
          have ka19 := Blk.below HAc.out HB19.out HAc.out.lt
          have q1 := kb19.cell 1
          have q2 := kb19.cell 2
          have q0 := kb19.cell 0
          have a1 := ka19.cell 1
          have a2 := ka19.cell 2
          simp only [List.getElem?_toArray, List.getElem?_cons_zero, List.getElem?_cons_succ] at q1 q2 q0 a1 a2
          refine hK.out _ _ (fun _ => ⟨q1, q2, q0, a1, a2⟩) (fun hHeld => ?_)
          clear hK K q1 q2 q0 a1 a2 kb19 ka19
          have hHeld := hHeld (by decide)
          clear hHeld
          try simp only [Act.put, List.setIfInBounds_toArray, List.set_cons_zero, List.set_cons_succ]
          refine wpM_ready (rs := [6, 23]) (by kernel_rfl) (by simp) ?_
          refine AllM.cons rfl (fun K hK => ?_) (AllM.cons rfl (fun K hK => ?_) AllM.nil)
          · go_simp
            go_at_call 22
            refine (copy_ints A1 c1 m wc.heap.size (L'.map Prod.fst) y19 (by rw [List.length_map]; exact HMm.out) (by have := HM9.out; omega) (HI1.out.below HB19.out (Nat.le_refl _)) HN1.out).mono ?_
            rintro e y20 ⟨v6_, rfl, ho, hb⟩
            obtain ⟨A6_20, c6_20, rfl, -, -⟩ := own_slice ho
            have HO6_20 := Lib.hid (own_low9 ho HB19.out.size)
            have HB20 := Lib.hid (HB19.out.trans (hb.mono HB19.out.size))
            have HH9_20 := Lib.hid (Has.tight (HH9_19.out.below hb (Nat.le_refl _)))
            clear ho hb
            try (go_wp2_with fail)
            have kb20 := Blk.below HPb.out HB20.out HPb.out.lt
            have ka20 := Blk.below HAc.out HB20.out HAc.out.lt
            have q1 := kb20.cell 1
            have q2 := kb20.cell 2
            have q0 := kb20.cell 0
            have a1 := ka20.cell 1
            have a2 := ka20.cell 2
            simp only [List.getElem?_toArray, List.getElem?_cons_zero, List.getElem?_cons_succ] at q1 q2 q0 a1 a2
            refine hK.out _ _ (fun _ => ⟨q1, q2, q0, a1, a2⟩) (fun hHeld => ?_)
            clear hK K q1 q2 q0 a1 a2 kb20 ka20
            have hHeld := hHeld (by decide)
            clear hHeld
            try simp only [Act.put, List.setIfInBounds_toArray, List.set_cons_zero, List.set_cons_succ]
            refine wpM_ready (rs := [10, 23]) (by kernel_rfl) (by simp) ?_
            refine AllM.cons rfl (fun K hK => ?_) (AllM.cons rfl (fun K hK => ?_) AllM.nil)
            · refine step_app (w := y20) rfl (.tmp 140) (.tmp 143) 22 rfl wc.heap.size 3 i0 (.int .i64 0) 8 Try.underlying22 hi hx0 hx1 hx2 rfl (.slice A6_20 m c6_20) m (ics (L'.map Prod.fst)) rfl HO6_20.out y20.heap.size (some ⟨wd.heap.size, 0, none⟩) 1 1 (ics [id]) rfl rfl HH9_20.out (fun e => nomatch e) (ics_one _) HM1.out HM2.out HB20.out.size ?_
              intro vb y21 ho hg hl
              obtain ⟨A10_21, c10_21, rfl, -, -⟩ := own_slice ho
              have HO10_21 := Lib.hid (show y21.ownsRow wc.heap.size 3 1 (.slice A10_21 (m + 1) c10_21) (m + 1) (ics (L'.map Prod.fst ++ [id])) from by rw [ics_app]; exact ho)
              have HB21 := Lib.hid (HB20.out.grown hg HB20.out.size (fun g hg => (HO6_20.out.lt g hg).1))
              have ht : Turn (fun k => (Value.slice A6_20 m c6_20).ownBlock = some k) y20 y21 := Turn.grown (Turn.refl _ _) hg (fun k hk _ => hk)
              clear ho hg hl ht
              have kb21 := Blk.below HPb.out HB21.out HPb.out.lt
              have ka21 := Blk.below HAc.out HB21.out HAc.out.lt
              have q1 := kb21.cell 1
              have q2 := kb21.cell 2
              have q0 := kb21.cell 0
              have a1 := ka21.cell 1
              have a2 := ka21.cell 2
              simp only [List.getElem?_toArray, List.getElem?_cons_zero, List.getElem?_cons_succ] at q1 q2 q0 a1 a2
              refine hK.out _ _ (fun _ => ⟨q1, q2, q0, a1, a2⟩) (fun hHeld => ?_)
              clear hK K q1 q2 q0 a1 a2 kb21 ka21
              have hHeld := hHeld (by decide)
              clear hHeld
              try simp only [Act.put, List.setIfInBounds_toArray, List.set_cons_zero, List.set_cons_succ]
              refine wpM_ready (rs := [15, 23]) (by kernel_rfl) (by simp) ?_
              refine AllM.cons rfl (fun K hK => ?_) (AllM.cons rfl (fun K hK => ?_) AllM.nil)
              · go_simp
                go_at_call 22
                refine (copy_ints A2 c2 m wc.heap.size (L'.map Prod.snd) y21 (by rw [List.length_map]; exact HMm.out) (by have := HM9.out; omega) (HI2.out.below HB21.out (Nat.le_refl _)) HN2.out).mono ?_
                rintro e y22 ⟨v15_, rfl, ho, hb⟩
                obtain ⟨A15_22, c15_22, rfl, -, -⟩ := own_slice ho
                have HO15_22 := Lib.hid (own_low9 ho HB21.out.size)
                have HB22 := Lib.hid (HB21.out.trans (hb.mono HB21.out.size))
                have HE15_22 := Lib.hid (show ∀ g, (Value.slice A10_21 (m + 1) c10_21).ownBlock = some g → (Value.slice A15_22 m c15_22).ownBlock ≠ some g from fun g hg e => by have h1 := (HO10_21.out.lt g hg).2; have h2 := (ho.lt g e).1; omega)
                have HO10_22 := Lib.hid (below_own HO10_21.out hb (Nat.le_refl _))
                clear ho hb
                try (go_wp2_with fail)
                have kb22 := Blk.below HPb.out HB22.out HPb.out.lt
                have ka22 := Blk.below HAc.out HB22.out HAc.out.lt
                have q1 := kb22.cell 1
                have q2 := kb22.cell 2
                have q0 := kb22.cell 0
                have a1 := ka22.cell 1
                have a2 := ka22.cell 2
                simp only [List.getElem?_toArray, List.getElem?_cons_zero, List.getElem?_cons_succ] at q1 q2 q0 a1 a2
                refine hK.out _ _ (fun _ => ⟨q1, q2, q0, a1, a2⟩) (fun hHeld => ?_)
                clear hK K q1 q2 q0 a1 a2 kb22 ka22
                have hHeld := hHeld (by decide)
                clear hHeld
                try simp only [Act.put, List.setIfInBounds_toArray, List.set_cons_zero, List.set_cons_succ]
                refine wpM_ready (rs := [23]) (by kernel_rfl) (by simp) ?_
                refine AllM.cons rfl (fun K hK => ?_) AllM.nil
                · go_simp
                  have hb : Below y22.heap.size y22 (y22.alloc (.cells #[.int .i64 (now + n)] 3)) := (Below.refl _ _).alloc (Nat.le_refl _) _
                  have hf := Has.tight (Has.fresh y22 #[.int .i64 (now + n)] 3)
                  have hs : y22.heap.size < (y22.alloc (.cells #[.int .i64 (now + n)] 3)).heap.size := by simp
                  obtain ⟨y23, hwy⟩ : ∃ x, y22.alloc (.cells #[.int .i64 (now + n)] 3) = x := ⟨_, rfl⟩
                  rw [hwy] at hb hf hs ⊢
                  clear hwy
                  have HH23_23 := Lib.hid (show Has y23 y23.heap.size (some ⟨y22.heap.size, 0, none⟩) (ics [(now + n)]) from hf)
                  have HB23 := Lib.hid (HB22.out.trans (hb.mono HB22.out.size))
                  have HL23_23 := Lib.hid hs
                  have HO10_23 := Lib.hid (below_own HO10_22.out hb (Nat.le_refl _))
                  have HO15_23 := Lib.hid (below_own HO15_22.out hb (Nat.le_refl _))
                  clear hb hf hs
                  have kb23 := Blk.below HPb.out HB23.out HPb.out.lt
                  have ka23 := Blk.below HAc.out HB23.out HAc.out.lt
                  have q1 := kb23.cell 1
                  have q2 := kb23.cell 2
                  have q0 := kb23.cell 0
                  have a1 := ka23.cell 1
                  have a2 := ka23.cell 2
                  simp only [List.getElem?_toArray, List.getElem?_cons_zero, List.getElem?_cons_succ] at q1 q2 q0 a1 a2
                  refine hK.out _ _ (fun _ => ⟨q1, q2, q0, a1, a2⟩) (fun hHeld => ?_)
                  clear hK K q1 q2 q0 a1 a2 kb23 ka23
                  have hHeld := hHeld (by decide)
                  clear hHeld
                  try simp only [Act.put, List.setIfInBounds_toArray, List.set_cons_zero, List.set_cons_succ]
                  refine wpM_ready (rs := [24]) (by kernel_rfl) (by simp) ?_
                  refine AllM.cons rfl (fun K hK => ?_) AllM.nil
                  · refine step_app (w := y23) rfl (.tmp 149) (.tmp 157) 22 rfl wc.heap.size 3 i0 (.int .i64 0) 8 Try.underlying22 hi hx0 hx1 hx2 rfl (.slice A15_22 m c15_22) m (ics (L'.map Prod.snd)) rfl HO15_23.out y23.heap.size (some ⟨y22.heap.size, 0, none⟩) 1 1 (ics [(now + n)]) rfl rfl HH23_23.out (fun e => nomatch e) (ics_one _) HM1.out HM2.out HB23.out.size ?_
                    intro vb y24 ho hg hl
                    obtain ⟨A24_24, c24_24, rfl, -, -⟩ := own_slice ho
                    have HO24_24 := Lib.hid (show y24.ownsRow wc.heap.size 3 1 (.slice A24_24 (m + 1) c24_24) (m + 1) (ics (L'.map Prod.snd ++ [(now + n)])) from by rw [ics_app]; exact ho)
                    have HB24 := Lib.hid (HB23.out.grown hg HB23.out.size (fun g hg => (HO15_23.out.lt g hg).1))
                    have ht : Turn (fun k => (Value.slice A15_22 m c15_22).ownBlock = some k) y23 y24 := Turn.grown (Turn.refl _ _) hg (fun k hk _ => hk)
                    have HO10_24 := Lib.hid (ht.own HO10_23.out (fun g hg e => HE15_22.out g hg e))
                    clear ho hg hl ht
                    have kb24 := Blk.below HPb.out HB24.out HPb.out.lt
                    have ka24 := Blk.below HAc.out HB24.out HAc.out.lt
                    have q1 := kb24.cell 1
                    have q2 := kb24.cell 2
                    have q0 := kb24.cell 0
                    have a1 := ka24.cell 1
                    have a2 := ka24.cell 2
                    simp only [List.getElem?_toArray, List.getElem?_cons_zero, List.getElem?_cons_succ] at q1 q2 q0 a1 a2
                    refine hK.out _ _ (fun _ => ⟨q1, q2, q0, a1, a2⟩) (fun hHeld => ?_)
                    clear hK K q1 q2 q0 a1 a2 kb24 ka24
                    have hHeld := hHeld (by decide)
                    clear hHeld
                    try simp only [Act.put, List.setIfInBounds_toArray, List.set_cons_zero, List.set_cons_succ]
                    refine wpM_pure (i := 25) (v := ?_) rfl (by kernel_rfl) (by kernel_rfl) (by kernel_rfl) (by kernel_rfl) (fun _ _ _ h => h) (Or.inl ⟨by rfl, ?_⟩) ?_
                    rotate_left
                    · (intro w hSw; first | (go_simp; done) | (go_simp; with_reducible rfl))
                    try simp only [Act.put, List.setIfInBounds_toArray, List.set_cons_zero, List.set_cons_succ]
                    refine wpM_pure (i := 26) (v := ?_) rfl (by kernel_rfl) (by kernel_rfl) (by kernel_rfl) (by kernel_rfl) (fun _ _ _ h => h) (Or.inl ⟨by rfl, ?_⟩) ?_
                    rotate_left
                    · (intro w hSw; first | (go_simp; done) | (go_simp; with_reducible rfl))
                    try simp only [Act.put, List.setIfInBounds_toArray, List.set_cons_zero, List.set_cons_succ]
                    have kb := Blk.below HPb.out HB24.out HPb.out.lt
                    have r1 := kb.frozen 1
                    have hbl := HB24.out
                    refine wpM_ready (rs := [27]) (by kernel_rfl) (by simp) ?_
                    refine AllM.cons rfl (fun K hK => ?_) AllM.nil
                    go_simp
                    refine hK.out _ _ (fun h => absurd h (by decide)) (fun hHeld => ?_)
                    clear hK K hHeld
                    try simp only [Act.put, List.setIfInBounds_toArray, List.set_cons_zero, List.set_cons_succ]
                    refine wpM_pure (i := 28) (v := ?_) rfl (by kernel_rfl) (by kernel_rfl) (by kernel_rfl) (by kernel_rfl) (fun _ _ _ h => h) (Or.inl ⟨by rfl, ?_⟩) ?_
                    rotate_left
                    · (intro w hSw; first | (go_simp; done) | (go_simp; with_reducible rfl))
                    try simp only [Act.put, List.setIfInBounds_toArray, List.set_cons_zero, List.set_cons_succ]
                    refine wpM_pure (i := 29) (v := ?_) rfl (by kernel_rfl) (by kernel_rfl) (by kernel_rfl) (by kernel_rfl) (fun _ _ _ h => h) (Or.inl ⟨by rfl, ?_⟩) ?_
                    rotate_left
                    · (intro w hSw; first | (go_simp; done) | (go_simp; with_reducible rfl))
                    try simp only [Act.put, List.setIfInBounds_toArray, List.set_cons_zero, List.set_cons_succ]
                    have kb2 := kb.set_ 1 (.slice A10_21 (m + 1) c10_21)
                    have r2 := kb2.frozen 2
                    refine wpM_ready (rs := [30]) (by kernel_rfl) (by simp) ?_
                    refine AllM.cons rfl (fun K hK => ?_) AllM.nil
                    go_simp
                    refine hK.out _ _ (fun h => absurd h (by decide)) (fun hHeld => ?_)
                    clear hK K hHeld
                    try simp only [Act.put, List.setIfInBounds_toArray, List.set_cons_zero, List.set_cons_succ]
                    refine wpM_done (by kernel_rfl) ?_ _
                    have kb3 := kb2.set_ 2 (.slice A24_24 (m + 1) c24_24)
                    simp only [List.setIfInBounds_toArray, List.set_cons_zero, List.set_cons_succ] at kb3
                    have ne10 := own_blk_ne HO10_24.out kb (by decide)
                    have ne24 := own_blk_ne HO24_24.out kb (by decide)
                    have o10 := own_far (own_far HO10_24.out (p := ⟨pb, 1, none⟩) ne10 (.slice A10_21 (m + 1) c10_21)) (p := ⟨pb, 2, none⟩) ne10 (.slice A24_24 (m + 1) c24_24)
                    have o24 := own_far (own_far HO24_24.out (p := ⟨pb, 1, none⟩) ne24 (.slice A10_21 (m + 1) c10_21)) (p := ⟨pb, 2, none⟩) ne24 (.slice A24_24 (m + 1) c24_24)
                    have htz : Turn (fun k => k = pb) wc ((y24.setCell ⟨pb, 1, none⟩ (.slice A10_21 (m + 1) c10_21)).setCell ⟨pb, 2, none⟩ (.slice A24_24 (m + 1) c24_24)) := ((Turn.of_below (Z := fun k => k = pb) hbl).set_ ⟨pb, 1, none⟩ _ rfl).set_ ⟨pb, 2, none⟩ _ rfl
                    obtain ⟨wz, hwz⟩ : ∃ wz, (y24.setCell ⟨pb, 1, none⟩ (.slice A10_21 (m + 1) c10_21)).setCell ⟨pb, 2, none⟩ (.slice A24_24 (m + 1) c24_24) = wz := ⟨_, rfl⟩
                    rw [hwz] at kb3 o10 o24 htz ⊢
                    have HX := Lib.hid (put_done HJ5.out HMm.out kb3 o10 o24 htz)
                    have HTx := Lib.hid (HT5.out.trans (htz.mono (Z' := fun k => k = cb ∨ k = bm ∨ k = pb) (fun _ _ h => Or.inr (Or.inr h))))
                    clear kb kb2 kb3 r1 r2 hbl ne10 ne24 o10 o24 htz hwz
                    go_wp2_with fail
                    have KNow := Lib.hid (fun q => (now_any (HX.out.drewN q).cs.ck).mono (R' := fun e w' => e = .returned (.int .i64 _) ∧ w' = wz.drewN q) (fun _ _ he => ⟨he.1, he.2.symm⟩))
                    obtain ⟨pv1, pv2, hpb9, -, -⟩ := HX.out.pl.ex
                    have hp90 := hpb9.cell 0
                    simp only [List.getElem?_toArray, List.getElem?_cons_zero, List.getElem?_cons_succ] at hp90
                    clear hpb9
                    go_big_quiet ((go_at_call 13; exact Calls.quiet_of_same (KNow.out _)))
                    go_wp2_with fail
                    go_ret
                    exact ⟨rfl, ⟨⟨_, _, _, _, HX.out.drewN nq, by omega, by omega, by omega⟩, HTx.out.drewN nq⟩⟩
              · go_simp
                have hb : Below y21.heap.size y21 (y21.alloc (.cells #[.int .i64 (now + n)] 3)) := (Below.refl _ _).alloc (Nat.le_refl _) _
                have hf := Has.tight (Has.fresh y21 #[.int .i64 (now + n)] 3)
                have hs : y21.heap.size < (y21.alloc (.cells #[.int .i64 (now + n)] 3)).heap.size := by simp
                obtain ⟨y25, hwy⟩ : ∃ x, y21.alloc (.cells #[.int .i64 (now + n)] 3) = x := ⟨_, rfl⟩
                rw [hwy] at hb hf hs ⊢
                clear hwy
                have HH23_25 := Lib.hid (show Has y25 y25.heap.size (some ⟨y21.heap.size, 0, none⟩) (ics [(now + n)]) from hf)
                have HB25 := Lib.hid (HB21.out.trans (hb.mono HB21.out.size))
                have HL23_25 := Lib.hid hs
                have HO10_25 := Lib.hid (below_own HO10_21.out hb (Nat.le_refl _))
                clear hb hf hs
                have kb25 := Blk.below HPb.out HB25.out HPb.out.lt
                have ka25 := Blk.below HAc.out HB25.out HAc.out.lt
                have q1 := kb25.cell 1
                have q2 := kb25.cell 2
                have q0 := kb25.cell 0
                have a1 := ka25.cell 1
                have a2 := ka25.cell 2
                simp only [List.getElem?_toArray, List.getElem?_cons_zero, List.getElem?_cons_succ] at q1 q2 q0 a1 a2
                refine hK.out _ _ (fun _ => ⟨q1, q2, q0, a1, a2⟩) (fun hHeld => ?_)
                clear hK K q1 q2 q0 a1 a2 kb25 ka25
                have hHeld := hHeld (by decide)
                clear hHeld
                try simp only [Act.put, List.setIfInBounds_toArray, List.set_cons_zero, List.set_cons_succ]
                refine wpM_ready (rs := [15]) (by kernel_rfl) (by simp) ?_
                refine AllM.cons rfl (fun K hK => ?_) AllM.nil
                · go_simp
                  go_at_call 22
                  refine (copy_ints A2 c2 m wc.heap.size (L'.map Prod.snd) y25 (by rw [List.length_map]; exact HMm.out) (by have := HM9.out; omega) (HI2.out.below HB25.out (Nat.le_refl _)) HN2.out).mono ?_
                  rintro e y26 ⟨v15_, rfl, ho, hb⟩
                  obtain ⟨A15_26, c15_26, rfl, -, -⟩ := own_slice ho
                  have HO15_26 := Lib.hid (own_low9 ho HB25.out.size)
                  have HB26 := Lib.hid (HB25.out.trans (hb.mono HB25.out.size))
                  have HE15_26 := Lib.hid (show ∀ g, (Value.slice A10_21 (m + 1) c10_21).ownBlock = some g → (Value.slice A15_26 m c15_26).ownBlock ≠ some g from fun g hg e => by have h1 := (HO10_25.out.lt g hg).2; have h2 := (ho.lt g e).1; omega)
                  have HO10_26 := Lib.hid (below_own HO10_25.out hb (Nat.le_refl _))
                  have HH23_26 := Lib.hid (Has.tight (HH23_25.out.below hb (Nat.le_refl _)))
                  have HL23_26 := Lib.hid (show y21.heap.size < y26.heap.size by have := HL23_25.out; have := hb.size; omega)
                  clear ho hb
                  try (go_wp2_with fail)
                  have kb26 := Blk.below HPb.out HB26.out HPb.out.lt
                  have ka26 := Blk.below HAc.out HB26.out HAc.out.lt
                  have q1 := kb26.cell 1
                  have q2 := kb26.cell 2
                  have q0 := kb26.cell 0
                  have a1 := ka26.cell 1
                  have a2 := ka26.cell 2
                  simp only [List.getElem?_toArray, List.getElem?_cons_zero, List.getElem?_cons_succ] at q1 q2 q0 a1 a2
                  refine hK.out _ _ (fun _ => ⟨q1, q2, q0, a1, a2⟩) (fun hHeld => ?_)
                  clear hK K q1 q2 q0 a1 a2 kb26 ka26
                  have hHeld := hHeld (by decide)
                  clear hHeld
                  try simp only [Act.put, List.setIfInBounds_toArray, List.set_cons_zero, List.set_cons_succ]
                  refine wpM_ready (rs := [24]) (by kernel_rfl) (by simp) ?_
                  refine AllM.cons rfl (fun K hK => ?_) AllM.nil
                  · refine step_app (w := y26) rfl (.tmp 149) (.tmp 157) 22 rfl wc.heap.size 3 i0 (.int .i64 0) 8 Try.underlying22 hi hx0 hx1 hx2 rfl (.slice A15_26 m c15_26) m (ics (L'.map Prod.snd)) rfl HO15_26.out y26.heap.size (some ⟨y21.heap.size, 0, none⟩) 1 1 (ics [(now + n)]) rfl rfl HH23_26.out (fun e => nomatch e) (ics_one _) HM1.out HM2.out HB26.out.size ?_
                    intro vb y27 ho hg hl
                    obtain ⟨A24_27, c24_27, rfl, -, -⟩ := own_slice ho
                    have HO24_27 := Lib.hid (show y27.ownsRow wc.heap.size 3 1 (.slice A24_27 (m + 1) c24_27) (m + 1) (ics (L'.map Prod.snd ++ [(now + n)])) from by rw [ics_app]; exact ho)
                    have HB27 := Lib.hid (HB26.out.grown hg HB26.out.size (fun g hg => (HO15_26.out.lt g hg).1))
                    have ht : Turn (fun k => (Value.slice A15_26 m c15_26).ownBlock = some k) y26 y27 := Turn.grown (Turn.refl _ _) hg (fun k hk _ => hk)
                    have HO10_27 := Lib.hid (ht.own HO10_26.out (fun g hg e => HE15_26.out g hg e))
                    clear ho hg hl ht
                    have kb27 := Blk.below HPb.out HB27.out HPb.out.lt
                    have ka27 := Blk.below HAc.out HB27.out HAc.out.lt
                    have q1 := kb27.cell 1
                    have q2 := kb27.cell 2
                    have q0 := kb27.cell 0
                    have a1 := ka27.cell 1
                    have a2 := ka27.cell 2
                    simp only [List.getElem?_toArray, List.getElem?_cons_zero, List.getElem?_cons_succ] at q1 q2 q0 a1 a2
                    refine hK.out _ _ (fun _ => ⟨q1, q2, q0, a1, a2⟩) (fun hHeld => ?_)
                    clear hK K q1 q2 q0 a1 a2 kb27 ka27
                    have hHeld := hHeld (by decide)
                    clear hHeld
                    try simp only [Act.put, List.setIfInBounds_toArray, List.set_cons_zero, List.set_cons_succ]
                    refine wpM_pure (i := 25) (v := ?_) rfl (by kernel_rfl) (by kernel_rfl) (by kernel_rfl) (by kernel_rfl) (fun _ _ _ h => h) (Or.inl ⟨by rfl, ?_⟩) ?_
                    rotate_left
                    · (intro w hSw; first | (go_simp; done) | (go_simp; with_reducible rfl))
                    try simp only [Act.put, List.setIfInBounds_toArray, List.set_cons_zero, List.set_cons_succ]
                    refine wpM_pure (i := 26) (v := ?_) rfl (by kernel_rfl) (by kernel_rfl) (by kernel_rfl) (by kernel_rfl) (fun _ _ _ h => h) (Or.inl ⟨by rfl, ?_⟩) ?_
                    rotate_left
                    · (intro w hSw; first | (go_simp; done) | (go_simp; with_reducible rfl))
                    try simp only [Act.put, List.setIfInBounds_toArray, List.set_cons_zero, List.set_cons_succ]
                    have kb := Blk.below HPb.out HB27.out HPb.out.lt
                    have r1 := kb.frozen 1
                    have hbl := HB27.out
                    refine wpM_ready (rs := [27]) (by kernel_rfl) (by simp) ?_
                    refine AllM.cons rfl (fun K hK => ?_) AllM.nil
                    go_simp
                    refine hK.out _ _ (fun h => absurd h (by decide)) (fun hHeld => ?_)
                    clear hK K hHeld
                    try simp only [Act.put, List.setIfInBounds_toArray, List.set_cons_zero, List.set_cons_succ]
                    refine wpM_pure (i := 28) (v := ?_) rfl (by kernel_rfl) (by kernel_rfl) (by kernel_rfl) (by kernel_rfl) (fun _ _ _ h => h) (Or.inl ⟨by rfl, ?_⟩) ?_
                    rotate_left
                    · (intro w hSw; first | (go_simp; done) | (go_simp; with_reducible rfl))
                    try simp only [Act.put, List.setIfInBounds_toArray, List.set_cons_zero, List.set_cons_succ]
                    refine wpM_pure (i := 29) (v := ?_) rfl (by kernel_rfl) (by kernel_rfl) (by kernel_rfl) (by kernel_rfl) (fun _ _ _ h => h) (Or.inl ⟨by rfl, ?_⟩) ?_
                    rotate_left
                    · (intro w hSw; first | (go_simp; done) | (go_simp; with_reducible rfl))
                    try simp only [Act.put, List.setIfInBounds_toArray, List.set_cons_zero, List.set_cons_succ]
                    have kb2 := kb.set_ 1 (.slice A10_21 (m + 1) c10_21)
                    have r2 := kb2.frozen 2
                    refine wpM_ready (rs := [30]) (by kernel_rfl) (by simp) ?_
                    refine AllM.cons rfl (fun K hK => ?_) AllM.nil
                    go_simp
                    refine hK.out _ _ (fun h => absurd h (by decide)) (fun hHeld => ?_)
                    clear hK K hHeld
                    try simp only [Act.put, List.setIfInBounds_toArray, List.set_cons_zero, List.set_cons_succ]
                    refine wpM_done (by kernel_rfl) ?_ _
                    have kb3 := kb2.set_ 2 (.slice A24_27 (m + 1) c24_27)
                    simp only [List.setIfInBounds_toArray, List.set_cons_zero, List.set_cons_succ] at kb3
                    have ne10 := own_blk_ne HO10_27.out kb (by decide)
                    have ne24 := own_blk_ne HO24_27.out kb (by decide)
                    have o10 := own_far (own_far HO10_27.out (p := ⟨pb, 1, none⟩) ne10 (.slice A10_21 (m + 1) c10_21)) (p := ⟨pb, 2, none⟩) ne10 (.slice A24_27 (m + 1) c24_27)
                    have o24 := own_far (own_far HO24_27.out (p := ⟨pb, 1, none⟩) ne24 (.slice A10_21 (m + 1) c10_21)) (p := ⟨pb, 2, none⟩) ne24 (.slice A24_27 (m + 1) c24_27)
                    have htz : Turn (fun k => k = pb) wc ((y27.setCell ⟨pb, 1, none⟩ (.slice A10_21 (m + 1) c10_21)).setCell ⟨pb, 2, none⟩ (.slice A24_27 (m + 1) c24_27)) := ((Turn.of_below (Z := fun k => k = pb) hbl).set_ ⟨pb, 1, none⟩ _ rfl).set_ ⟨pb, 2, none⟩ _ rfl
                    obtain ⟨wz, hwz⟩ : ∃ wz, (y27.setCell ⟨pb, 1, none⟩ (.slice A10_21 (m + 1) c10_21)).setCell ⟨pb, 2, none⟩ (.slice A24_27 (m + 1) c24_27) = wz := ⟨_, rfl⟩
                    rw [hwz] at kb3 o10 o24 htz ⊢
                    have HX := Lib.hid (put_done HJ5.out HMm.out kb3 o10 o24 htz)
                    have HTx := Lib.hid (HT5.out.trans (htz.mono (Z' := fun k => k = cb ∨ k = bm ∨ k = pb) (fun _ _ h => Or.inr (Or.inr h))))
                    clear kb kb2 kb3 r1 r2 hbl ne10 ne24 o10 o24 htz hwz
                    go_wp2_with fail
                    have KNow := Lib.hid (fun q => (now_any (HX.out.drewN q).cs.ck).mono (R' := fun e w' => e = .returned (.int .i64 _) ∧ w' = wz.drewN q) (fun _ _ he => ⟨he.1, he.2.symm⟩))
                    obtain ⟨pv1, pv2, hpb9, -, -⟩ := HX.out.pl.ex
                    have hp90 := hpb9.cell 0
                    simp only [List.getElem?_toArray, List.getElem?_cons_zero, List.getElem?_cons_succ] at hp90
                    clear hpb9
                    go_big_quiet ((go_at_call 13; exact Calls.quiet_of_same (KNow.out _)))
                    go_wp2_with fail
                    go_ret
                    exact ⟨rfl, ⟨⟨_, _, _, _, HX.out.drewN nq, by omega, by omega, by omega⟩, HTx.out.drewN nq⟩⟩
            · go_simp
              have hb : Below y20.heap.size y20 (y20.alloc (.cells #[.int .i64 (now + n)] 3)) := (Below.refl _ _).alloc (Nat.le_refl _) _
              have hf := Has.tight (Has.fresh y20 #[.int .i64 (now + n)] 3)
              have hs : y20.heap.size < (y20.alloc (.cells #[.int .i64 (now + n)] 3)).heap.size := by simp
              obtain ⟨y28, hwy⟩ : ∃ x, y20.alloc (.cells #[.int .i64 (now + n)] 3) = x := ⟨_, rfl⟩
              rw [hwy] at hb hf hs ⊢
              clear hwy
              have HH23_28 := Lib.hid (show Has y28 y28.heap.size (some ⟨y20.heap.size, 0, none⟩) (ics [(now + n)]) from hf)
              have HB28 := Lib.hid (HB20.out.trans (hb.mono HB20.out.size))
              have HE23_28 := Lib.hid (show (Value.slice A6_20 m c6_20).ownBlock ≠ some y20.heap.size from fun e => absurd (HO6_20.out.lt _ e).2 (Nat.lt_irrefl _))
              have HL23_28 := Lib.hid hs
              have HO6_28 := Lib.hid (below_own HO6_20.out hb (Nat.le_refl _))
              have HH9_28 := Lib.hid (Has.tight (HH9_20.out.below hb (Nat.le_refl _)))
              clear hb hf hs
              have kb28 := Blk.below HPb.out HB28.out HPb.out.lt
              have ka28 := Blk.below HAc.out HB28.out HAc.out.lt
              have q1 := kb28.cell 1
              have q2 := kb28.cell 2
              have q0 := kb28.cell 0
              have a1 := ka28.cell 1
              have a2 := ka28.cell 2
              simp only [List.getElem?_toArray, List.getElem?_cons_zero, List.getElem?_cons_succ] at q1 q2 q0 a1 a2
              refine hK.out _ _ (fun _ => ⟨q1, q2, q0, a1, a2⟩) (fun hHeld => ?_)
              clear hK K q1 q2 q0 a1 a2 kb28 ka28
              have hHeld := hHeld (by decide)
              clear hHeld
              try simp only [Act.put, List.setIfInBounds_toArray, List.set_cons_zero, List.set_cons_succ]
              refine wpM_ready (rs := [10]) (by kernel_rfl) (by simp) ?_
              refine AllM.cons rfl (fun K hK => ?_) AllM.nil
              · refine step_app (w := y28) rfl (.tmp 140) (.tmp 143) 22 rfl wc.heap.size 3 i0 (.int .i64 0) 8 Try.underlying22 hi hx0 hx1 hx2 rfl (.slice A6_20 m c6_20) m (ics (L'.map Prod.fst)) rfl HO6_28.out y28.heap.size (some ⟨wd.heap.size, 0, none⟩) 1 1 (ics [id]) rfl rfl HH9_28.out (fun e => nomatch e) (ics_one _) HM1.out HM2.out HB28.out.size ?_
                intro vb y29 ho hg hl
                obtain ⟨A10_29, c10_29, rfl, -, -⟩ := own_slice ho
                have HO10_29 := Lib.hid (show y29.ownsRow wc.heap.size 3 1 (.slice A10_29 (m + 1) c10_29) (m + 1) (ics (L'.map Prod.fst ++ [id])) from by rw [ics_app]; exact ho)
                have HB29 := Lib.hid (HB28.out.grown hg HB28.out.size (fun g hg => (HO6_28.out.lt g hg).1))
                have ht : Turn (fun k => (Value.slice A6_20 m c6_20).ownBlock = some k) y28 y29 := Turn.grown (Turn.refl _ _) hg (fun k hk _ => hk)
                have HH23_29 := Lib.hid (Has.tight (has_apart HH23_28.out ht (fun ad he _ hz => by cases he; exact HE23_28.out hz)))
                have HL23_29 := Lib.hid (show y20.heap.size < y29.heap.size by have := HL23_28.out; have := ht.size; omega)
                clear ho hg hl ht
                have kb29 := Blk.below HPb.out HB29.out HPb.out.lt
                have ka29 := Blk.below HAc.out HB29.out HAc.out.lt
                have q1 := kb29.cell 1
                have q2 := kb29.cell 2
                have q0 := kb29.cell 0
                have a1 := ka29.cell 1
                have a2 := ka29.cell 2
                simp only [List.getElem?_toArray, List.getElem?_cons_zero, List.getElem?_cons_succ] at q1 q2 q0 a1 a2
                refine hK.out _ _ (fun _ => ⟨q1, q2, q0, a1, a2⟩) (fun hHeld => ?_)
                clear hK K q1 q2 q0 a1 a2 kb29 ka29
                have hHeld := hHeld (by decide)
                clear hHeld
                try simp only [Act.put, List.setIfInBounds_toArray, List.set_cons_zero, List.set_cons_succ]
                refine wpM_ready (rs := [15]) (by kernel_rfl) (by simp) ?_
                refine AllM.cons rfl (fun K hK => ?_) AllM.nil
                · go_simp
                  go_at_call 22
                  refine (copy_ints A2 c2 m wc.heap.size (L'.map Prod.snd) y29 (by rw [List.length_map]; exact HMm.out) (by have := HM9.out; omega) (HI2.out.below HB29.out (Nat.le_refl _)) HN2.out).mono ?_
                  rintro e y30 ⟨v15_, rfl, ho, hb⟩
                  obtain ⟨A15_30, c15_30, rfl, -, -⟩ := own_slice ho
                  have HO15_30 := Lib.hid (own_low9 ho HB29.out.size)
                  have HB30 := Lib.hid (HB29.out.trans (hb.mono HB29.out.size))
                  have HE15_30 := Lib.hid (show ∀ g, (Value.slice A10_29 (m + 1) c10_29).ownBlock = some g → (Value.slice A15_30 m c15_30).ownBlock ≠ some g from fun g hg e => by have h1 := (HO10_29.out.lt g hg).2; have h2 := (ho.lt g e).1; omega)
                  have HO10_30 := Lib.hid (below_own HO10_29.out hb (Nat.le_refl _))
                  have HH23_30 := Lib.hid (Has.tight (HH23_29.out.below hb (Nat.le_refl _)))
                  have HL23_30 := Lib.hid (show y20.heap.size < y30.heap.size by have := HL23_29.out; have := hb.size; omega)
                  clear ho hb
                  try (go_wp2_with fail)
                  have kb30 := Blk.below HPb.out HB30.out HPb.out.lt
                  have ka30 := Blk.below HAc.out HB30.out HAc.out.lt
                  have q1 := kb30.cell 1
                  have q2 := kb30.cell 2
                  have q0 := kb30.cell 0
                  have a1 := ka30.cell 1
                  have a2 := ka30.cell 2
                  simp only [List.getElem?_toArray, List.getElem?_cons_zero, List.getElem?_cons_succ] at q1 q2 q0 a1 a2
                  refine hK.out _ _ (fun _ => ⟨q1, q2, q0, a1, a2⟩) (fun hHeld => ?_)
                  clear hK K q1 q2 q0 a1 a2 kb30 ka30
                  have hHeld := hHeld (by decide)
                  clear hHeld
                  try simp only [Act.put, List.setIfInBounds_toArray, List.set_cons_zero, List.set_cons_succ]
                  refine wpM_ready (rs := [24]) (by kernel_rfl) (by simp) ?_
                  refine AllM.cons rfl (fun K hK => ?_) AllM.nil
                  · refine step_app (w := y30) rfl (.tmp 149) (.tmp 157) 22 rfl wc.heap.size 3 i0 (.int .i64 0) 8 Try.underlying22 hi hx0 hx1 hx2 rfl (.slice A15_30 m c15_30) m (ics (L'.map Prod.snd)) rfl HO15_30.out y30.heap.size (some ⟨y20.heap.size, 0, none⟩) 1 1 (ics [(now + n)]) rfl rfl HH23_30.out (fun e => nomatch e) (ics_one _) HM1.out HM2.out HB30.out.size ?_
                    intro vb y31 ho hg hl
                    obtain ⟨A24_31, c24_31, rfl, -, -⟩ := own_slice ho
                    have HO24_31 := Lib.hid (show y31.ownsRow wc.heap.size 3 1 (.slice A24_31 (m + 1) c24_31) (m + 1) (ics (L'.map Prod.snd ++ [(now + n)])) from by rw [ics_app]; exact ho)
                    have HB31 := Lib.hid (HB30.out.grown hg HB30.out.size (fun g hg => (HO15_30.out.lt g hg).1))
                    have ht : Turn (fun k => (Value.slice A15_30 m c15_30).ownBlock = some k) y30 y31 := Turn.grown (Turn.refl _ _) hg (fun k hk _ => hk)
                    have HO10_31 := Lib.hid (ht.own HO10_30.out (fun g hg e => HE15_30.out g hg e))
                    clear ho hg hl ht
                    have kb31 := Blk.below HPb.out HB31.out HPb.out.lt
                    have ka31 := Blk.below HAc.out HB31.out HAc.out.lt
                    have q1 := kb31.cell 1
                    have q2 := kb31.cell 2
                    have q0 := kb31.cell 0
                    have a1 := ka31.cell 1
                    have a2 := ka31.cell 2
                    simp only [List.getElem?_toArray, List.getElem?_cons_zero, List.getElem?_cons_succ] at q1 q2 q0 a1 a2
                    refine hK.out _ _ (fun _ => ⟨q1, q2, q0, a1, a2⟩) (fun hHeld => ?_)
                    clear hK K q1 q2 q0 a1 a2 kb31 ka31
                    have hHeld := hHeld (by decide)
                    clear hHeld
                    try simp only [Act.put, List.setIfInBounds_toArray, List.set_cons_zero, List.set_cons_succ]
                    refine wpM_pure (i := 25) (v := ?_) rfl (by kernel_rfl) (by kernel_rfl) (by kernel_rfl) (by kernel_rfl) (fun _ _ _ h => h) (Or.inl ⟨by rfl, ?_⟩) ?_
                    rotate_left
                    · (intro w hSw; first | (go_simp; done) | (go_simp; with_reducible rfl))
                    try simp only [Act.put, List.setIfInBounds_toArray, List.set_cons_zero, List.set_cons_succ]
                    refine wpM_pure (i := 26) (v := ?_) rfl (by kernel_rfl) (by kernel_rfl) (by kernel_rfl) (by kernel_rfl) (fun _ _ _ h => h) (Or.inl ⟨by rfl, ?_⟩) ?_
                    rotate_left
                    · (intro w hSw; first | (go_simp; done) | (go_simp; with_reducible rfl))
                    try simp only [Act.put, List.setIfInBounds_toArray, List.set_cons_zero, List.set_cons_succ]
                    have kb := Blk.below HPb.out HB31.out HPb.out.lt
                    have r1 := kb.frozen 1
                    have hbl := HB31.out
                    refine wpM_ready (rs := [27]) (by kernel_rfl) (by simp) ?_
                    refine AllM.cons rfl (fun K hK => ?_) AllM.nil
                    go_simp
                    refine hK.out _ _ (fun h => absurd h (by decide)) (fun hHeld => ?_)
                    clear hK K hHeld
                    try simp only [Act.put, List.setIfInBounds_toArray, List.set_cons_zero, List.set_cons_succ]
                    refine wpM_pure (i := 28) (v := ?_) rfl (by kernel_rfl) (by kernel_rfl) (by kernel_rfl) (by kernel_rfl) (fun _ _ _ h => h) (Or.inl ⟨by rfl, ?_⟩) ?_
                    rotate_left
                    · (intro w hSw; first | (go_simp; done) | (go_simp; with_reducible rfl))
                    try simp only [Act.put, List.setIfInBounds_toArray, List.set_cons_zero, List.set_cons_succ]
                    refine wpM_pure (i := 29) (v := ?_) rfl (by kernel_rfl) (by kernel_rfl) (by kernel_rfl) (by kernel_rfl) (fun _ _ _ h => h) (Or.inl ⟨by rfl, ?_⟩) ?_
                    rotate_left
                    · (intro w hSw; first | (go_simp; done) | (go_simp; with_reducible rfl))
                    try simp only [Act.put, List.setIfInBounds_toArray, List.set_cons_zero, List.set_cons_succ]
                    have kb2 := kb.set_ 1 (.slice A10_29 (m + 1) c10_29)
                    have r2 := kb2.frozen 2
                    refine wpM_ready (rs := [30]) (by kernel_rfl) (by simp) ?_
                    refine AllM.cons rfl (fun K hK => ?_) AllM.nil
                    go_simp
                    refine hK.out _ _ (fun h => absurd h (by decide)) (fun hHeld => ?_)
                    clear hK K hHeld
                    try simp only [Act.put, List.setIfInBounds_toArray, List.set_cons_zero, List.set_cons_succ]
                    refine wpM_done (by kernel_rfl) ?_ _
                    have kb3 := kb2.set_ 2 (.slice A24_31 (m + 1) c24_31)
                    simp only [List.setIfInBounds_toArray, List.set_cons_zero, List.set_cons_succ] at kb3
                    have ne10 := own_blk_ne HO10_31.out kb (by decide)
                    have ne24 := own_blk_ne HO24_31.out kb (by decide)
                    have o10 := own_far (own_far HO10_31.out (p := ⟨pb, 1, none⟩) ne10 (.slice A10_29 (m + 1) c10_29)) (p := ⟨pb, 2, none⟩) ne10 (.slice A24_31 (m + 1) c24_31)
                    have o24 := own_far (own_far HO24_31.out (p := ⟨pb, 1, none⟩) ne24 (.slice A10_29 (m + 1) c10_29)) (p := ⟨pb, 2, none⟩) ne24 (.slice A24_31 (m + 1) c24_31)
                    have htz : Turn (fun k => k = pb) wc ((y31.setCell ⟨pb, 1, none⟩ (.slice A10_29 (m + 1) c10_29)).setCell ⟨pb, 2, none⟩ (.slice A24_31 (m + 1) c24_31)) := ((Turn.of_below (Z := fun k => k = pb) hbl).set_ ⟨pb, 1, none⟩ _ rfl).set_ ⟨pb, 2, none⟩ _ rfl
                    obtain ⟨wz, hwz⟩ : ∃ wz, (y31.setCell ⟨pb, 1, none⟩ (.slice A10_29 (m + 1) c10_29)).setCell ⟨pb, 2, none⟩ (.slice A24_31 (m + 1) c24_31) = wz := ⟨_, rfl⟩
                    rw [hwz] at kb3 o10 o24 htz ⊢
                    have HX := Lib.hid (put_done HJ5.out HMm.out kb3 o10 o24 htz)
                    have HTx := Lib.hid (HT5.out.trans (htz.mono (Z' := fun k => k = cb ∨ k = bm ∨ k = pb) (fun _ _ h => Or.inr (Or.inr h))))
                    clear kb kb2 kb3 r1 r2 hbl ne10 ne24 o10 o24 htz hwz
                    go_wp2_with fail
                    have KNow := Lib.hid (fun q => (now_any (HX.out.drewN q).cs.ck).mono (R' := fun e w' => e = .returned (.int .i64 _) ∧ w' = wz.drewN q) (fun _ _ he => ⟨he.1, he.2.symm⟩))
                    obtain ⟨pv1, pv2, hpb9, -, -⟩ := HX.out.pl.ex
                    have hp90 := hpb9.cell 0
                    simp only [List.getElem?_toArray, List.getElem?_cons_zero, List.getElem?_cons_succ] at hp90
                    clear hpb9
                    go_big_quiet ((go_at_call 13; exact Calls.quiet_of_same (KNow.out _)))
                    go_wp2_with fail
                    go_ret
                    exact ⟨rfl, ⟨⟨_, _, _, _, HX.out.drewN nq, by omega, by omega, by omega⟩, HTx.out.drewN nq⟩⟩
          · go_simp
            have hb : Below y19.heap.size y19 (y19.alloc (.cells #[.int .i64 (now + n)] 3)) := (Below.refl _ _).alloc (Nat.le_refl _) _
            have hf := Has.tight (Has.fresh y19 #[.int .i64 (now + n)] 3)
            have hs : y19.heap.size < (y19.alloc (.cells #[.int .i64 (now + n)] 3)).heap.size := by simp
            obtain ⟨y32, hwy⟩ : ∃ x, y19.alloc (.cells #[.int .i64 (now + n)] 3) = x := ⟨_, rfl⟩
            rw [hwy] at hb hf hs ⊢
            clear hwy
            have HH23_32 := Lib.hid (show Has y32 y32.heap.size (some ⟨y19.heap.size, 0, none⟩) (ics [(now + n)]) from hf)
            have HB32 := Lib.hid (HB19.out.trans (hb.mono HB19.out.size))
            have HL23_32 := Lib.hid hs
            have HH9_32 := Lib.hid (Has.tight (HH9_19.out.below hb (Nat.le_refl _)))
            clear hb hf hs
            have kb32 := Blk.below HPb.out HB32.out HPb.out.lt
            have ka32 := Blk.below HAc.out HB32.out HAc.out.lt
            have q1 := kb32.cell 1
            have q2 := kb32.cell 2
            have q0 := kb32.cell 0
            have a1 := ka32.cell 1
            have a2 := ka32.cell 2
            simp only [List.getElem?_toArray, List.getElem?_cons_zero, List.getElem?_cons_succ] at q1 q2 q0 a1 a2
            refine hK.out _ _ (fun _ => ⟨q1, q2, q0, a1, a2⟩) (fun hHeld => ?_)
            clear hK K q1 q2 q0 a1 a2 kb32 ka32
            have hHeld := hHeld (by decide)
            clear hHeld
            try simp only [Act.put, List.setIfInBounds_toArray, List.set_cons_zero, List.set_cons_succ]
            refine wpM_ready (rs := [6]) (by kernel_rfl) (by simp) ?_
            refine AllM.cons rfl (fun K hK => ?_) AllM.nil
            · go_simp
              go_at_call 22
              refine (copy_ints A1 c1 m wc.heap.size (L'.map Prod.fst) y32 (by rw [List.length_map]; exact HMm.out) (by have := HM9.out; omega) (HI1.out.below HB32.out (Nat.le_refl _)) HN1.out).mono ?_
              rintro e y33 ⟨v6_, rfl, ho, hb⟩
              obtain ⟨A6_33, c6_33, rfl, -, -⟩ := own_slice ho
              have HO6_33 := Lib.hid (own_low9 ho HB32.out.size)
              have HB33 := Lib.hid (HB32.out.trans (hb.mono HB32.out.size))
              have HE23_33 := Lib.hid (show (Value.slice A6_33 m c6_33).ownBlock ≠ some (y19.heap.size) from fun e => by have h1 := (ho.lt _ e).1; have h2 := HL23_32.out; omega)
              have HH9_33 := Lib.hid (Has.tight (HH9_32.out.below hb (Nat.le_refl _)))
              have HH23_33 := Lib.hid (Has.tight (HH23_32.out.below hb (Nat.le_refl _)))
              have HL23_33 := Lib.hid (show y19.heap.size < y33.heap.size by have := HL23_32.out; have := hb.size; omega)
              clear ho hb
              try (go_wp2_with fail)
              have kb33 := Blk.below HPb.out HB33.out HPb.out.lt
              have ka33 := Blk.below HAc.out HB33.out HAc.out.lt
              have q1 := kb33.cell 1
              have q2 := kb33.cell 2
              have q0 := kb33.cell 0
              have a1 := ka33.cell 1
              have a2 := ka33.cell 2
              simp only [List.getElem?_toArray, List.getElem?_cons_zero, List.getElem?_cons_succ] at q1 q2 q0 a1 a2
              refine hK.out _ _ (fun _ => ⟨q1, q2, q0, a1, a2⟩) (fun hHeld => ?_)
              clear hK K q1 q2 q0 a1 a2 kb33 ka33
              have hHeld := hHeld (by decide)
              clear hHeld
              try simp only [Act.put, List.setIfInBounds_toArray, List.set_cons_zero, List.set_cons_succ]
              refine wpM_ready (rs := [10]) (by kernel_rfl) (by simp) ?_
              refine AllM.cons rfl (fun K hK => ?_) AllM.nil
              · refine step_app (w := y33) rfl (.tmp 140) (.tmp 143) 22 rfl wc.heap.size 3 i0 (.int .i64 0) 8 Try.underlying22 hi hx0 hx1 hx2 rfl (.slice A6_33 m c6_33) m (ics (L'.map Prod.fst)) rfl HO6_33.out y33.heap.size (some ⟨wd.heap.size, 0, none⟩) 1 1 (ics [id]) rfl rfl HH9_33.out (fun e => nomatch e) (ics_one _) HM1.out HM2.out HB33.out.size ?_
                intro vb y34 ho hg hl
                obtain ⟨A10_34, c10_34, rfl, -, -⟩ := own_slice ho
                have HO10_34 := Lib.hid (show y34.ownsRow wc.heap.size 3 1 (.slice A10_34 (m + 1) c10_34) (m + 1) (ics (L'.map Prod.fst ++ [id])) from by rw [ics_app]; exact ho)
                have HB34 := Lib.hid (HB33.out.grown hg HB33.out.size (fun g hg => (HO6_33.out.lt g hg).1))
                have ht : Turn (fun k => (Value.slice A6_33 m c6_33).ownBlock = some k) y33 y34 := Turn.grown (Turn.refl _ _) hg (fun k hk _ => hk)
                have HH23_34 := Lib.hid (Has.tight (has_apart HH23_33.out ht (fun ad he _ hz => by cases he; exact HE23_33.out hz)))
                have HL23_34 := Lib.hid (show y19.heap.size < y34.heap.size by have := HL23_33.out; have := ht.size; omega)
                clear ho hg hl ht
                have kb34 := Blk.below HPb.out HB34.out HPb.out.lt
                have ka34 := Blk.below HAc.out HB34.out HAc.out.lt
                have q1 := kb34.cell 1
                have q2 := kb34.cell 2
                have q0 := kb34.cell 0
                have a1 := ka34.cell 1
                have a2 := ka34.cell 2
                simp only [List.getElem?_toArray, List.getElem?_cons_zero, List.getElem?_cons_succ] at q1 q2 q0 a1 a2
                refine hK.out _ _ (fun _ => ⟨q1, q2, q0, a1, a2⟩) (fun hHeld => ?_)
                clear hK K q1 q2 q0 a1 a2 kb34 ka34
                have hHeld := hHeld (by decide)
                clear hHeld
                try simp only [Act.put, List.setIfInBounds_toArray, List.set_cons_zero, List.set_cons_succ]
                refine wpM_ready (rs := [15]) (by kernel_rfl) (by simp) ?_
                refine AllM.cons rfl (fun K hK => ?_) AllM.nil
                · go_simp
                  go_at_call 22
                  refine (copy_ints A2 c2 m wc.heap.size (L'.map Prod.snd) y34 (by rw [List.length_map]; exact HMm.out) (by have := HM9.out; omega) (HI2.out.below HB34.out (Nat.le_refl _)) HN2.out).mono ?_
                  rintro e y35 ⟨v15_, rfl, ho, hb⟩
                  obtain ⟨A15_35, c15_35, rfl, -, -⟩ := own_slice ho
                  have HO15_35 := Lib.hid (own_low9 ho HB34.out.size)
                  have HB35 := Lib.hid (HB34.out.trans (hb.mono HB34.out.size))
                  have HE15_35 := Lib.hid (show ∀ g, (Value.slice A10_34 (m + 1) c10_34).ownBlock = some g → (Value.slice A15_35 m c15_35).ownBlock ≠ some g from fun g hg e => by have h1 := (HO10_34.out.lt g hg).2; have h2 := (ho.lt g e).1; omega)
                  have HO10_35 := Lib.hid (below_own HO10_34.out hb (Nat.le_refl _))
                  have HH23_35 := Lib.hid (Has.tight (HH23_34.out.below hb (Nat.le_refl _)))
                  have HL23_35 := Lib.hid (show y19.heap.size < y35.heap.size by have := HL23_34.out; have := hb.size; omega)
                  clear ho hb
                  try (go_wp2_with fail)
                  have kb35 := Blk.below HPb.out HB35.out HPb.out.lt
                  have ka35 := Blk.below HAc.out HB35.out HAc.out.lt
                  have q1 := kb35.cell 1
                  have q2 := kb35.cell 2
                  have q0 := kb35.cell 0
                  have a1 := ka35.cell 1
                  have a2 := ka35.cell 2
                  simp only [List.getElem?_toArray, List.getElem?_cons_zero, List.getElem?_cons_succ] at q1 q2 q0 a1 a2
                  refine hK.out _ _ (fun _ => ⟨q1, q2, q0, a1, a2⟩) (fun hHeld => ?_)
                  clear hK K q1 q2 q0 a1 a2 kb35 ka35
                  have hHeld := hHeld (by decide)
                  clear hHeld
                  try simp only [Act.put, List.setIfInBounds_toArray, List.set_cons_zero, List.set_cons_succ]
                  refine wpM_ready (rs := [24]) (by kernel_rfl) (by simp) ?_
                  refine AllM.cons rfl (fun K hK => ?_) AllM.nil
                  · refine step_app (w := y35) rfl (.tmp 149) (.tmp 157) 22 rfl wc.heap.size 3 i0 (.int .i64 0) 8 Try.underlying22 hi hx0 hx1 hx2 rfl (.slice A15_35 m c15_35) m (ics (L'.map Prod.snd)) rfl HO15_35.out y35.heap.size (some ⟨y19.heap.size, 0, none⟩) 1 1 (ics [(now + n)]) rfl rfl HH23_35.out (fun e => nomatch e) (ics_one _) HM1.out HM2.out HB35.out.size ?_
                    intro vb y36 ho hg hl
                    obtain ⟨A24_36, c24_36, rfl, -, -⟩ := own_slice ho
                    have HO24_36 := Lib.hid (show y36.ownsRow wc.heap.size 3 1 (.slice A24_36 (m + 1) c24_36) (m + 1) (ics (L'.map Prod.snd ++ [(now + n)])) from by rw [ics_app]; exact ho)
                    have HB36 := Lib.hid (HB35.out.grown hg HB35.out.size (fun g hg => (HO15_35.out.lt g hg).1))
                    have ht : Turn (fun k => (Value.slice A15_35 m c15_35).ownBlock = some k) y35 y36 := Turn.grown (Turn.refl _ _) hg (fun k hk _ => hk)
                    have HO10_36 := Lib.hid (ht.own HO10_35.out (fun g hg e => HE15_35.out g hg e))
                    clear ho hg hl ht
                    have kb36 := Blk.below HPb.out HB36.out HPb.out.lt
                    have ka36 := Blk.below HAc.out HB36.out HAc.out.lt
                    have q1 := kb36.cell 1
                    have q2 := kb36.cell 2
                    have q0 := kb36.cell 0
                    have a1 := ka36.cell 1
                    have a2 := ka36.cell 2
                    simp only [List.getElem?_toArray, List.getElem?_cons_zero, List.getElem?_cons_succ] at q1 q2 q0 a1 a2
                    refine hK.out _ _ (fun _ => ⟨q1, q2, q0, a1, a2⟩) (fun hHeld => ?_)
                    clear hK K q1 q2 q0 a1 a2 kb36 ka36
                    have hHeld := hHeld (by decide)
                    clear hHeld
                    try simp only [Act.put, List.setIfInBounds_toArray, List.set_cons_zero, List.set_cons_succ]
                    refine wpM_pure (i := 25) (v := ?_) rfl (by kernel_rfl) (by kernel_rfl) (by kernel_rfl) (by kernel_rfl) (fun _ _ _ h => h) (Or.inl ⟨by rfl, ?_⟩) ?_
                    rotate_left
                    · (intro w hSw; first | (go_simp; done) | (go_simp; with_reducible rfl))
                    try simp only [Act.put, List.setIfInBounds_toArray, List.set_cons_zero, List.set_cons_succ]
                    refine wpM_pure (i := 26) (v := ?_) rfl (by kernel_rfl) (by kernel_rfl) (by kernel_rfl) (by kernel_rfl) (fun _ _ _ h => h) (Or.inl ⟨by rfl, ?_⟩) ?_
                    rotate_left
                    · (intro w hSw; first | (go_simp; done) | (go_simp; with_reducible rfl))
                    try simp only [Act.put, List.setIfInBounds_toArray, List.set_cons_zero, List.set_cons_succ]
                    have kb := Blk.below HPb.out HB36.out HPb.out.lt
                    have r1 := kb.frozen 1
                    have hbl := HB36.out
                    refine wpM_ready (rs := [27]) (by kernel_rfl) (by simp) ?_
                    refine AllM.cons rfl (fun K hK => ?_) AllM.nil
                    go_simp
                    refine hK.out _ _ (fun h => absurd h (by decide)) (fun hHeld => ?_)
                    clear hK K hHeld
                    try simp only [Act.put, List.setIfInBounds_toArray, List.set_cons_zero, List.set_cons_succ]
                    refine wpM_pure (i := 28) (v := ?_) rfl (by kernel_rfl) (by kernel_rfl) (by kernel_rfl) (by kernel_rfl) (fun _ _ _ h => h) (Or.inl ⟨by rfl, ?_⟩) ?_
                    rotate_left
                    · (intro w hSw; first | (go_simp; done) | (go_simp; with_reducible rfl))
                    try simp only [Act.put, List.setIfInBounds_toArray, List.set_cons_zero, List.set_cons_succ]
                    refine wpM_pure (i := 29) (v := ?_) rfl (by kernel_rfl) (by kernel_rfl) (by kernel_rfl) (by kernel_rfl) (fun _ _ _ h => h) (Or.inl ⟨by rfl, ?_⟩) ?_
                    rotate_left
                    · (intro w hSw; first | (go_simp; done) | (go_simp; with_reducible rfl))
                    try simp only [Act.put, List.setIfInBounds_toArray, List.set_cons_zero, List.set_cons_succ]
                    have kb2 := kb.set_ 1 (.slice A10_34 (m + 1) c10_34)
                    have r2 := kb2.frozen 2
                    refine wpM_ready (rs := [30]) (by kernel_rfl) (by simp) ?_
                    refine AllM.cons rfl (fun K hK => ?_) AllM.nil
                    go_simp
                    refine hK.out _ _ (fun h => absurd h (by decide)) (fun hHeld => ?_)
                    clear hK K hHeld
                    try simp only [Act.put, List.setIfInBounds_toArray, List.set_cons_zero, List.set_cons_succ]
                    refine wpM_done (by kernel_rfl) ?_ _
                    have kb3 := kb2.set_ 2 (.slice A24_36 (m + 1) c24_36)
                    simp only [List.setIfInBounds_toArray, List.set_cons_zero, List.set_cons_succ] at kb3
                    have ne10 := own_blk_ne HO10_36.out kb (by decide)
                    have ne24 := own_blk_ne HO24_36.out kb (by decide)
                    have o10 := own_far (own_far HO10_36.out (p := ⟨pb, 1, none⟩) ne10 (.slice A10_34 (m + 1) c10_34)) (p := ⟨pb, 2, none⟩) ne10 (.slice A24_36 (m + 1) c24_36)
                    have o24 := own_far (own_far HO24_36.out (p := ⟨pb, 1, none⟩) ne24 (.slice A10_34 (m + 1) c10_34)) (p := ⟨pb, 2, none⟩) ne24 (.slice A24_36 (m + 1) c24_36)
                    have htz : Turn (fun k => k = pb) wc ((y36.setCell ⟨pb, 1, none⟩ (.slice A10_34 (m + 1) c10_34)).setCell ⟨pb, 2, none⟩ (.slice A24_36 (m + 1) c24_36)) := ((Turn.of_below (Z := fun k => k = pb) hbl).set_ ⟨pb, 1, none⟩ _ rfl).set_ ⟨pb, 2, none⟩ _ rfl
                    obtain ⟨wz, hwz⟩ : ∃ wz, (y36.setCell ⟨pb, 1, none⟩ (.slice A10_34 (m + 1) c10_34)).setCell ⟨pb, 2, none⟩ (.slice A24_36 (m + 1) c24_36) = wz := ⟨_, rfl⟩
                    rw [hwz] at kb3 o10 o24 htz ⊢
                    have HX := Lib.hid (put_done HJ5.out HMm.out kb3 o10 o24 htz)
                    have HTx := Lib.hid (HT5.out.trans (htz.mono (Z' := fun k => k = cb ∨ k = bm ∨ k = pb) (fun _ _ h => Or.inr (Or.inr h))))
                    clear kb kb2 kb3 r1 r2 hbl ne10 ne24 o10 o24 htz hwz
                    go_wp2_with fail
                    have KNow := Lib.hid (fun q => (now_any (HX.out.drewN q).cs.ck).mono (R' := fun e w' => e = .returned (.int .i64 _) ∧ w' = wz.drewN q) (fun _ _ he => ⟨he.1, he.2.symm⟩))
                    obtain ⟨pv1, pv2, hpb9, -, -⟩ := HX.out.pl.ex
                    have hp90 := hpb9.cell 0
                    simp only [List.getElem?_toArray, List.getElem?_cons_zero, List.getElem?_cons_succ] at hp90
                    clear hpb9
                    go_big_quiet ((go_at_call 13; exact Calls.quiet_of_same (KNow.out _)))
                    go_wp2_with fail
                    go_ret
                    exact ⟨rfl, ⟨⟨_, _, _, _, HX.out.drewN nq, by omega, by omega, by omega⟩, HTx.out.drewN nq⟩⟩
        · go_simp
          have hb : Below wd.heap.size wd (wd.alloc (.cells #[.int .i64 (now + n)] 3)) := (Below.refl _ _).alloc (Nat.le_refl _) _
          have hf := Has.tight (Has.fresh wd #[.int .i64 (now + n)] 3)
          have hs : wd.heap.size < (wd.alloc (.cells #[.int .i64 (now + n)] 3)).heap.size := by simp
          obtain ⟨y37, hwy⟩ : ∃ x, wd.alloc (.cells #[.int .i64 (now + n)] 3) = x := ⟨_, rfl⟩
          rw [hwy] at hb hf hs ⊢
          clear hwy
          have HH23_37 := Lib.hid (show Has y37 y37.heap.size (some ⟨wd.heap.size, 0, none⟩) (ics [(now + n)]) from hf)
          have HB37 := Lib.hid (HB0.out.trans (hb.mono HB0.out.size))
          have HL23_37 := Lib.hid hs
          clear hb hf hs
          have kb37 := Blk.below HPb.out HB37.out HPb.out.lt
          have ka37 := Blk.below HAc.out HB37.out HAc.out.lt
          have q1 := kb37.cell 1
          have q2 := kb37.cell 2
          have q0 := kb37.cell 0
          have a1 := ka37.cell 1
          have a2 := ka37.cell 2
          simp only [List.getElem?_toArray, List.getElem?_cons_zero, List.getElem?_cons_succ] at q1 q2 q0 a1 a2
          refine hK.out _ _ (fun _ => ⟨q1, q2, q0, a1, a2⟩) (fun hHeld => ?_)
          clear hK K q1 q2 q0 a1 a2 kb37 ka37
          have hHeld := hHeld (by decide)
          clear hHeld
          try simp only [Act.put, List.setIfInBounds_toArray, List.set_cons_zero, List.set_cons_succ]
          refine wpM_ready (rs := [6, 9]) (by kernel_rfl) (by simp) ?_
          refine AllM.cons rfl (fun K hK => ?_) (AllM.cons rfl (fun K hK => ?_) AllM.nil)
          · go_simp
            go_at_call 22
            refine (copy_ints A1 c1 m wc.heap.size (L'.map Prod.fst) y37 (by rw [List.length_map]; exact HMm.out) (by have := HM9.out; omega) (HI1.out.below HB37.out (Nat.le_refl _)) HN1.out).mono ?_
            rintro e y38 ⟨v6_, rfl, ho, hb⟩
            obtain ⟨A6_38, c6_38, rfl, -, -⟩ := own_slice ho
            have HO6_38 := Lib.hid (own_low9 ho HB37.out.size)
            have HB38 := Lib.hid (HB37.out.trans (hb.mono HB37.out.size))
            have HE23_38 := Lib.hid (show (Value.slice A6_38 m c6_38).ownBlock ≠ some (wd.heap.size) from fun e => by have h1 := (ho.lt _ e).1; have h2 := HL23_37.out; omega)
            have HH23_38 := Lib.hid (Has.tight (HH23_37.out.below hb (Nat.le_refl _)))
            have HL23_38 := Lib.hid (show wd.heap.size < y38.heap.size by have := HL23_37.out; have := hb.size; omega)
            clear ho hb
            try (go_wp2_with fail)
            have kb38 := Blk.below HPb.out HB38.out HPb.out.lt
            have ka38 := Blk.below HAc.out HB38.out HAc.out.lt
            have q1 := kb38.cell 1
            have q2 := kb38.cell 2
            have q0 := kb38.cell 0
            have a1 := ka38.cell 1
            have a2 := ka38.cell 2
            simp only [List.getElem?_toArray, List.getElem?_cons_zero, List.getElem?_cons_succ] at q1 q2 q0 a1 a2
            refine hK.out _ _ (fun _ => ⟨q1, q2, q0, a1, a2⟩) (fun hHeld => ?_)
            clear hK K q1 q2 q0 a1 a2 kb38 ka38
            have hHeld := hHeld (by decide)
            clear hHeld
            try simp only [Act.put, List.setIfInBounds_toArray, List.set_cons_zero, List.set_cons_succ]
            refine wpM_ready (rs := [9]) (by kernel_rfl) (by simp) ?_
            refine AllM.cons rfl (fun K hK => ?_) AllM.nil
            · go_simp
              have hb : Below y38.heap.size y38 (y38.alloc (.cells #[.int .i64 id] 3)) := (Below.refl _ _).alloc (Nat.le_refl _) _
              have hf := Has.tight (Has.fresh y38 #[.int .i64 id] 3)
              have hs : y38.heap.size < (y38.alloc (.cells #[.int .i64 id] 3)).heap.size := by simp
              obtain ⟨y39, hwy⟩ : ∃ x, y38.alloc (.cells #[.int .i64 id] 3) = x := ⟨_, rfl⟩
              rw [hwy] at hb hf hs ⊢
              clear hwy
              have HH9_39 := Lib.hid (show Has y39 y39.heap.size (some ⟨y38.heap.size, 0, none⟩) (ics [id]) from hf)
              have HB39 := Lib.hid (HB38.out.trans (hb.mono HB38.out.size))
              have HO6_39 := Lib.hid (below_own HO6_38.out hb (Nat.le_refl _))
              have HH23_39 := Lib.hid (Has.tight (HH23_38.out.below hb (Nat.le_refl _)))
              have HL23_39 := Lib.hid (show wd.heap.size < y39.heap.size by have := HL23_38.out; have := hb.size; omega)
              clear hb hf hs
              have kb39 := Blk.below HPb.out HB39.out HPb.out.lt
              have ka39 := Blk.below HAc.out HB39.out HAc.out.lt
              have q1 := kb39.cell 1
              have q2 := kb39.cell 2
              have q0 := kb39.cell 0
              have a1 := ka39.cell 1
              have a2 := ka39.cell 2
              simp only [List.getElem?_toArray, List.getElem?_cons_zero, List.getElem?_cons_succ] at q1 q2 q0 a1 a2
              refine hK.out _ _ (fun _ => ⟨q1, q2, q0, a1, a2⟩) (fun hHeld => ?_)
              clear hK K q1 q2 q0 a1 a2 kb39 ka39
              have hHeld := hHeld (by decide)
              clear hHeld
              try simp only [Act.put, List.setIfInBounds_toArray, List.set_cons_zero, List.set_cons_succ]
              refine wpM_ready (rs := [10]) (by kernel_rfl) (by simp) ?_
              refine AllM.cons rfl (fun K hK => ?_) AllM.nil
              · refine step_app (w := y39) rfl (.tmp 140) (.tmp 143) 22 rfl wc.heap.size 3 i0 (.int .i64 0) 8 Try.underlying22 hi hx0 hx1 hx2 rfl (.slice A6_38 m c6_38) m (ics (L'.map Prod.fst)) rfl HO6_39.out y39.heap.size (some ⟨y38.heap.size, 0, none⟩) 1 1 (ics [id]) rfl rfl HH9_39.out (fun e => nomatch e) (ics_one _) HM1.out HM2.out HB39.out.size ?_
                intro vb y40 ho hg hl
                obtain ⟨A10_40, c10_40, rfl, -, -⟩ := own_slice ho
                have HO10_40 := Lib.hid (show y40.ownsRow wc.heap.size 3 1 (.slice A10_40 (m + 1) c10_40) (m + 1) (ics (L'.map Prod.fst ++ [id])) from by rw [ics_app]; exact ho)
                have HB40 := Lib.hid (HB39.out.grown hg HB39.out.size (fun g hg => (HO6_39.out.lt g hg).1))
                have ht : Turn (fun k => (Value.slice A6_38 m c6_38).ownBlock = some k) y39 y40 := Turn.grown (Turn.refl _ _) hg (fun k hk _ => hk)
                have HH23_40 := Lib.hid (Has.tight (has_apart HH23_39.out ht (fun ad he _ hz => by cases he; exact HE23_38.out hz)))
                have HL23_40 := Lib.hid (show wd.heap.size < y40.heap.size by have := HL23_39.out; have := ht.size; omega)
                clear ho hg hl ht
                have kb40 := Blk.below HPb.out HB40.out HPb.out.lt
                have ka40 := Blk.below HAc.out HB40.out HAc.out.lt
                have q1 := kb40.cell 1
                have q2 := kb40.cell 2
                have q0 := kb40.cell 0
                have a1 := ka40.cell 1
                have a2 := ka40.cell 2
                simp only [List.getElem?_toArray, List.getElem?_cons_zero, List.getElem?_cons_succ] at q1 q2 q0 a1 a2
                refine hK.out _ _ (fun _ => ⟨q1, q2, q0, a1, a2⟩) (fun hHeld => ?_)
                clear hK K q1 q2 q0 a1 a2 kb40 ka40
                have hHeld := hHeld (by decide)
                clear hHeld
                try simp only [Act.put, List.setIfInBounds_toArray, List.set_cons_zero, List.set_cons_succ]
                refine wpM_ready (rs := [15]) (by kernel_rfl) (by simp) ?_
                refine AllM.cons rfl (fun K hK => ?_) AllM.nil
                · go_simp
                  go_at_call 22
                  refine (copy_ints A2 c2 m wc.heap.size (L'.map Prod.snd) y40 (by rw [List.length_map]; exact HMm.out) (by have := HM9.out; omega) (HI2.out.below HB40.out (Nat.le_refl _)) HN2.out).mono ?_
                  rintro e y41 ⟨v15_, rfl, ho, hb⟩
                  obtain ⟨A15_41, c15_41, rfl, -, -⟩ := own_slice ho
                  have HO15_41 := Lib.hid (own_low9 ho HB40.out.size)
                  have HB41 := Lib.hid (HB40.out.trans (hb.mono HB40.out.size))
                  have HE15_41 := Lib.hid (show ∀ g, (Value.slice A10_40 (m + 1) c10_40).ownBlock = some g → (Value.slice A15_41 m c15_41).ownBlock ≠ some g from fun g hg e => by have h1 := (HO10_40.out.lt g hg).2; have h2 := (ho.lt g e).1; omega)
                  have HO10_41 := Lib.hid (below_own HO10_40.out hb (Nat.le_refl _))
                  have HH23_41 := Lib.hid (Has.tight (HH23_40.out.below hb (Nat.le_refl _)))
                  have HL23_41 := Lib.hid (show wd.heap.size < y41.heap.size by have := HL23_40.out; have := hb.size; omega)
                  clear ho hb
                  try (go_wp2_with fail)
                  have kb41 := Blk.below HPb.out HB41.out HPb.out.lt
                  have ka41 := Blk.below HAc.out HB41.out HAc.out.lt
                  have q1 := kb41.cell 1
                  have q2 := kb41.cell 2
                  have q0 := kb41.cell 0
                  have a1 := ka41.cell 1
                  have a2 := ka41.cell 2
                  simp only [List.getElem?_toArray, List.getElem?_cons_zero, List.getElem?_cons_succ] at q1 q2 q0 a1 a2
                  refine hK.out _ _ (fun _ => ⟨q1, q2, q0, a1, a2⟩) (fun hHeld => ?_)
                  clear hK K q1 q2 q0 a1 a2 kb41 ka41
                  have hHeld := hHeld (by decide)
                  clear hHeld
                  try simp only [Act.put, List.setIfInBounds_toArray, List.set_cons_zero, List.set_cons_succ]
                  refine wpM_ready (rs := [24]) (by kernel_rfl) (by simp) ?_
                  refine AllM.cons rfl (fun K hK => ?_) AllM.nil
                  · refine step_app (w := y41) rfl (.tmp 149) (.tmp 157) 22 rfl wc.heap.size 3 i0 (.int .i64 0) 8 Try.underlying22 hi hx0 hx1 hx2 rfl (.slice A15_41 m c15_41) m (ics (L'.map Prod.snd)) rfl HO15_41.out y41.heap.size (some ⟨wd.heap.size, 0, none⟩) 1 1 (ics [(now + n)]) rfl rfl HH23_41.out (fun e => nomatch e) (ics_one _) HM1.out HM2.out HB41.out.size ?_
                    intro vb y42 ho hg hl
                    obtain ⟨A24_42, c24_42, rfl, -, -⟩ := own_slice ho
                    have HO24_42 := Lib.hid (show y42.ownsRow wc.heap.size 3 1 (.slice A24_42 (m + 1) c24_42) (m + 1) (ics (L'.map Prod.snd ++ [(now + n)])) from by rw [ics_app]; exact ho)
                    have HB42 := Lib.hid (HB41.out.grown hg HB41.out.size (fun g hg => (HO15_41.out.lt g hg).1))
                    have ht : Turn (fun k => (Value.slice A15_41 m c15_41).ownBlock = some k) y41 y42 := Turn.grown (Turn.refl _ _) hg (fun k hk _ => hk)
                    have HO10_42 := Lib.hid (ht.own HO10_41.out (fun g hg e => HE15_41.out g hg e))
                    clear ho hg hl ht
                    have kb42 := Blk.below HPb.out HB42.out HPb.out.lt
                    have ka42 := Blk.below HAc.out HB42.out HAc.out.lt
                    have q1 := kb42.cell 1
                    have q2 := kb42.cell 2
                    have q0 := kb42.cell 0
                    have a1 := ka42.cell 1
                    have a2 := ka42.cell 2
                    simp only [List.getElem?_toArray, List.getElem?_cons_zero, List.getElem?_cons_succ] at q1 q2 q0 a1 a2
                    refine hK.out _ _ (fun _ => ⟨q1, q2, q0, a1, a2⟩) (fun hHeld => ?_)
                    clear hK K q1 q2 q0 a1 a2 kb42 ka42
                    have hHeld := hHeld (by decide)
                    clear hHeld
                    try simp only [Act.put, List.setIfInBounds_toArray, List.set_cons_zero, List.set_cons_succ]
                    refine wpM_pure (i := 25) (v := ?_) rfl (by kernel_rfl) (by kernel_rfl) (by kernel_rfl) (by kernel_rfl) (fun _ _ _ h => h) (Or.inl ⟨by rfl, ?_⟩) ?_
                    rotate_left
                    · (intro w hSw; first | (go_simp; done) | (go_simp; with_reducible rfl))
                    try simp only [Act.put, List.setIfInBounds_toArray, List.set_cons_zero, List.set_cons_succ]
                    refine wpM_pure (i := 26) (v := ?_) rfl (by kernel_rfl) (by kernel_rfl) (by kernel_rfl) (by kernel_rfl) (fun _ _ _ h => h) (Or.inl ⟨by rfl, ?_⟩) ?_
                    rotate_left
                    · (intro w hSw; first | (go_simp; done) | (go_simp; with_reducible rfl))
                    try simp only [Act.put, List.setIfInBounds_toArray, List.set_cons_zero, List.set_cons_succ]
                    have kb := Blk.below HPb.out HB42.out HPb.out.lt
                    have r1 := kb.frozen 1
                    have hbl := HB42.out
                    refine wpM_ready (rs := [27]) (by kernel_rfl) (by simp) ?_
                    refine AllM.cons rfl (fun K hK => ?_) AllM.nil
                    go_simp
                    refine hK.out _ _ (fun h => absurd h (by decide)) (fun hHeld => ?_)
                    clear hK K hHeld
                    try simp only [Act.put, List.setIfInBounds_toArray, List.set_cons_zero, List.set_cons_succ]
                    refine wpM_pure (i := 28) (v := ?_) rfl (by kernel_rfl) (by kernel_rfl) (by kernel_rfl) (by kernel_rfl) (fun _ _ _ h => h) (Or.inl ⟨by rfl, ?_⟩) ?_
                    rotate_left
                    · (intro w hSw; first | (go_simp; done) | (go_simp; with_reducible rfl))
                    try simp only [Act.put, List.setIfInBounds_toArray, List.set_cons_zero, List.set_cons_succ]
                    refine wpM_pure (i := 29) (v := ?_) rfl (by kernel_rfl) (by kernel_rfl) (by kernel_rfl) (by kernel_rfl) (fun _ _ _ h => h) (Or.inl ⟨by rfl, ?_⟩) ?_
                    rotate_left
                    · (intro w hSw; first | (go_simp; done) | (go_simp; with_reducible rfl))
                    try simp only [Act.put, List.setIfInBounds_toArray, List.set_cons_zero, List.set_cons_succ]
                    have kb2 := kb.set_ 1 (.slice A10_40 (m + 1) c10_40)
                    have r2 := kb2.frozen 2
                    refine wpM_ready (rs := [30]) (by kernel_rfl) (by simp) ?_
                    refine AllM.cons rfl (fun K hK => ?_) AllM.nil
                    go_simp
                    refine hK.out _ _ (fun h => absurd h (by decide)) (fun hHeld => ?_)
                    clear hK K hHeld
                    try simp only [Act.put, List.setIfInBounds_toArray, List.set_cons_zero, List.set_cons_succ]
                    refine wpM_done (by kernel_rfl) ?_ _
                    have kb3 := kb2.set_ 2 (.slice A24_42 (m + 1) c24_42)
                    simp only [List.setIfInBounds_toArray, List.set_cons_zero, List.set_cons_succ] at kb3
                    have ne10 := own_blk_ne HO10_42.out kb (by decide)
                    have ne24 := own_blk_ne HO24_42.out kb (by decide)
                    have o10 := own_far (own_far HO10_42.out (p := ⟨pb, 1, none⟩) ne10 (.slice A10_40 (m + 1) c10_40)) (p := ⟨pb, 2, none⟩) ne10 (.slice A24_42 (m + 1) c24_42)
                    have o24 := own_far (own_far HO24_42.out (p := ⟨pb, 1, none⟩) ne24 (.slice A10_40 (m + 1) c10_40)) (p := ⟨pb, 2, none⟩) ne24 (.slice A24_42 (m + 1) c24_42)
                    have htz : Turn (fun k => k = pb) wc ((y42.setCell ⟨pb, 1, none⟩ (.slice A10_40 (m + 1) c10_40)).setCell ⟨pb, 2, none⟩ (.slice A24_42 (m + 1) c24_42)) := ((Turn.of_below (Z := fun k => k = pb) hbl).set_ ⟨pb, 1, none⟩ _ rfl).set_ ⟨pb, 2, none⟩ _ rfl
                    obtain ⟨wz, hwz⟩ : ∃ wz, (y42.setCell ⟨pb, 1, none⟩ (.slice A10_40 (m + 1) c10_40)).setCell ⟨pb, 2, none⟩ (.slice A24_42 (m + 1) c24_42) = wz := ⟨_, rfl⟩
                    rw [hwz] at kb3 o10 o24 htz ⊢
                    have HX := Lib.hid (put_done HJ5.out HMm.out kb3 o10 o24 htz)
                    have HTx := Lib.hid (HT5.out.trans (htz.mono (Z' := fun k => k = cb ∨ k = bm ∨ k = pb) (fun _ _ h => Or.inr (Or.inr h))))
                    clear kb kb2 kb3 r1 r2 hbl ne10 ne24 o10 o24 htz hwz
                    go_wp2_with fail
                    have KNow := Lib.hid (fun q => (now_any (HX.out.drewN q).cs.ck).mono (R' := fun e w' => e = .returned (.int .i64 _) ∧ w' = wz.drewN q) (fun _ _ he => ⟨he.1, he.2.symm⟩))
                    obtain ⟨pv1, pv2, hpb9, -, -⟩ := HX.out.pl.ex
                    have hp90 := hpb9.cell 0
                    simp only [List.getElem?_toArray, List.getElem?_cons_zero, List.getElem?_cons_succ] at hp90
                    clear hpb9
                    go_big_quiet ((go_at_call 13; exact Calls.quiet_of_same (KNow.out _)))
                    go_wp2_with fail
                    go_ret
                    exact ⟨rfl, ⟨⟨_, _, _, _, HX.out.drewN nq, by omega, by omega, by omega⟩, HTx.out.drewN nq⟩⟩
          · go_simp
            have hb : Below y37.heap.size y37 (y37.alloc (.cells #[.int .i64 id] 3)) := (Below.refl _ _).alloc (Nat.le_refl _) _
            have hf := Has.tight (Has.fresh y37 #[.int .i64 id] 3)
            have hs : y37.heap.size < (y37.alloc (.cells #[.int .i64 id] 3)).heap.size := by simp
            obtain ⟨y43, hwy⟩ : ∃ x, y37.alloc (.cells #[.int .i64 id] 3) = x := ⟨_, rfl⟩
            rw [hwy] at hb hf hs ⊢
            clear hwy
            have HH9_43 := Lib.hid (show Has y43 y43.heap.size (some ⟨y37.heap.size, 0, none⟩) (ics [id]) from hf)
            have HB43 := Lib.hid (HB37.out.trans (hb.mono HB37.out.size))
            have HH23_43 := Lib.hid (Has.tight (HH23_37.out.below hb (Nat.le_refl _)))
            have HL23_43 := Lib.hid (show wd.heap.size < y43.heap.size by have := HL23_37.out; have := hb.size; omega)
            clear hb hf hs
            have kb43 := Blk.below HPb.out HB43.out HPb.out.lt
            have ka43 := Blk.below HAc.out HB43.out HAc.out.lt
            have q1 := kb43.cell 1
            have q2 := kb43.cell 2
            have q0 := kb43.cell 0
            have a1 := ka43.cell 1
            have a2 := ka43.cell 2
            simp only [List.getElem?_toArray, List.getElem?_cons_zero, List.getElem?_cons_succ] at q1 q2 q0 a1 a2
            refine hK.out _ _ (fun _ => ⟨q1, q2, q0, a1, a2⟩) (fun hHeld => ?_)
            clear hK K q1 q2 q0 a1 a2 kb43 ka43
            have hHeld := hHeld (by decide)
            clear hHeld
            try simp only [Act.put, List.setIfInBounds_toArray, List.set_cons_zero, List.set_cons_succ]
            refine wpM_ready (rs := [6]) (by kernel_rfl) (by simp) ?_
            refine AllM.cons rfl (fun K hK => ?_) AllM.nil
            · go_simp
              go_at_call 22
              refine (copy_ints A1 c1 m wc.heap.size (L'.map Prod.fst) y43 (by rw [List.length_map]; exact HMm.out) (by have := HM9.out; omega) (HI1.out.below HB43.out (Nat.le_refl _)) HN1.out).mono ?_
              rintro e y44 ⟨v6_, rfl, ho, hb⟩
              obtain ⟨A6_44, c6_44, rfl, -, -⟩ := own_slice ho
              have HO6_44 := Lib.hid (own_low9 ho HB43.out.size)
              have HB44 := Lib.hid (HB43.out.trans (hb.mono HB43.out.size))
              have HE23_44 := Lib.hid (show (Value.slice A6_44 m c6_44).ownBlock ≠ some (wd.heap.size) from fun e => by have h1 := (ho.lt _ e).1; have h2 := HL23_43.out; omega)
              have HH9_44 := Lib.hid (Has.tight (HH9_43.out.below hb (Nat.le_refl _)))
              have HH23_44 := Lib.hid (Has.tight (HH23_43.out.below hb (Nat.le_refl _)))
              have HL23_44 := Lib.hid (show wd.heap.size < y44.heap.size by have := HL23_43.out; have := hb.size; omega)
              clear ho hb
              try (go_wp2_with fail)
              have kb44 := Blk.below HPb.out HB44.out HPb.out.lt
              have ka44 := Blk.below HAc.out HB44.out HAc.out.lt
              have q1 := kb44.cell 1
              have q2 := kb44.cell 2
              have q0 := kb44.cell 0
              have a1 := ka44.cell 1
              have a2 := ka44.cell 2
              simp only [List.getElem?_toArray, List.getElem?_cons_zero, List.getElem?_cons_succ] at q1 q2 q0 a1 a2
              refine hK.out _ _ (fun _ => ⟨q1, q2, q0, a1, a2⟩) (fun hHeld => ?_)
              clear hK K q1 q2 q0 a1 a2 kb44 ka44
              have hHeld := hHeld (by decide)
              clear hHeld
              try simp only [Act.put, List.setIfInBounds_toArray, List.set_cons_zero, List.set_cons_succ]
              refine wpM_ready (rs := [10]) (by kernel_rfl) (by simp) ?_
              refine AllM.cons rfl (fun K hK => ?_) AllM.nil
              · refine step_app (w := y44) rfl (.tmp 140) (.tmp 143) 22 rfl wc.heap.size 3 i0 (.int .i64 0) 8 Try.underlying22 hi hx0 hx1 hx2 rfl (.slice A6_44 m c6_44) m (ics (L'.map Prod.fst)) rfl HO6_44.out y44.heap.size (some ⟨y37.heap.size, 0, none⟩) 1 1 (ics [id]) rfl rfl HH9_44.out (fun e => nomatch e) (ics_one _) HM1.out HM2.out HB44.out.size ?_
                intro vb y45 ho hg hl
                obtain ⟨A10_45, c10_45, rfl, -, -⟩ := own_slice ho
                have HO10_45 := Lib.hid (show y45.ownsRow wc.heap.size 3 1 (.slice A10_45 (m + 1) c10_45) (m + 1) (ics (L'.map Prod.fst ++ [id])) from by rw [ics_app]; exact ho)
                have HB45 := Lib.hid (HB44.out.grown hg HB44.out.size (fun g hg => (HO6_44.out.lt g hg).1))
                have ht : Turn (fun k => (Value.slice A6_44 m c6_44).ownBlock = some k) y44 y45 := Turn.grown (Turn.refl _ _) hg (fun k hk _ => hk)
                have HH23_45 := Lib.hid (Has.tight (has_apart HH23_44.out ht (fun ad he _ hz => by cases he; exact HE23_44.out hz)))
                have HL23_45 := Lib.hid (show wd.heap.size < y45.heap.size by have := HL23_44.out; have := ht.size; omega)
                clear ho hg hl ht
                have kb45 := Blk.below HPb.out HB45.out HPb.out.lt
                have ka45 := Blk.below HAc.out HB45.out HAc.out.lt
                have q1 := kb45.cell 1
                have q2 := kb45.cell 2
                have q0 := kb45.cell 0
                have a1 := ka45.cell 1
                have a2 := ka45.cell 2
                simp only [List.getElem?_toArray, List.getElem?_cons_zero, List.getElem?_cons_succ] at q1 q2 q0 a1 a2
                refine hK.out _ _ (fun _ => ⟨q1, q2, q0, a1, a2⟩) (fun hHeld => ?_)
                clear hK K q1 q2 q0 a1 a2 kb45 ka45
                have hHeld := hHeld (by decide)
                clear hHeld
                try simp only [Act.put, List.setIfInBounds_toArray, List.set_cons_zero, List.set_cons_succ]
                refine wpM_ready (rs := [15]) (by kernel_rfl) (by simp) ?_
                refine AllM.cons rfl (fun K hK => ?_) AllM.nil
                · go_simp
                  go_at_call 22
                  refine (copy_ints A2 c2 m wc.heap.size (L'.map Prod.snd) y45 (by rw [List.length_map]; exact HMm.out) (by have := HM9.out; omega) (HI2.out.below HB45.out (Nat.le_refl _)) HN2.out).mono ?_
                  rintro e y46 ⟨v15_, rfl, ho, hb⟩
                  obtain ⟨A15_46, c15_46, rfl, -, -⟩ := own_slice ho
                  have HO15_46 := Lib.hid (own_low9 ho HB45.out.size)
                  have HB46 := Lib.hid (HB45.out.trans (hb.mono HB45.out.size))
                  have HE15_46 := Lib.hid (show ∀ g, (Value.slice A10_45 (m + 1) c10_45).ownBlock = some g → (Value.slice A15_46 m c15_46).ownBlock ≠ some g from fun g hg e => by have h1 := (HO10_45.out.lt g hg).2; have h2 := (ho.lt g e).1; omega)
                  have HO10_46 := Lib.hid (below_own HO10_45.out hb (Nat.le_refl _))
                  have HH23_46 := Lib.hid (Has.tight (HH23_45.out.below hb (Nat.le_refl _)))
                  have HL23_46 := Lib.hid (show wd.heap.size < y46.heap.size by have := HL23_45.out; have := hb.size; omega)
                  clear ho hb
                  try (go_wp2_with fail)
                  have kb46 := Blk.below HPb.out HB46.out HPb.out.lt
                  have ka46 := Blk.below HAc.out HB46.out HAc.out.lt
                  have q1 := kb46.cell 1
                  have q2 := kb46.cell 2
                  have q0 := kb46.cell 0
                  have a1 := ka46.cell 1
                  have a2 := ka46.cell 2
                  simp only [List.getElem?_toArray, List.getElem?_cons_zero, List.getElem?_cons_succ] at q1 q2 q0 a1 a2
                  refine hK.out _ _ (fun _ => ⟨q1, q2, q0, a1, a2⟩) (fun hHeld => ?_)
                  clear hK K q1 q2 q0 a1 a2 kb46 ka46
                  have hHeld := hHeld (by decide)
                  clear hHeld
                  try simp only [Act.put, List.setIfInBounds_toArray, List.set_cons_zero, List.set_cons_succ]
                  refine wpM_ready (rs := [24]) (by kernel_rfl) (by simp) ?_
                  refine AllM.cons rfl (fun K hK => ?_) AllM.nil
                  · refine step_app (w := y46) rfl (.tmp 149) (.tmp 157) 22 rfl wc.heap.size 3 i0 (.int .i64 0) 8 Try.underlying22 hi hx0 hx1 hx2 rfl (.slice A15_46 m c15_46) m (ics (L'.map Prod.snd)) rfl HO15_46.out y46.heap.size (some ⟨wd.heap.size, 0, none⟩) 1 1 (ics [(now + n)]) rfl rfl HH23_46.out (fun e => nomatch e) (ics_one _) HM1.out HM2.out HB46.out.size ?_
                    intro vb y47 ho hg hl
                    obtain ⟨A24_47, c24_47, rfl, -, -⟩ := own_slice ho
                    have HO24_47 := Lib.hid (show y47.ownsRow wc.heap.size 3 1 (.slice A24_47 (m + 1) c24_47) (m + 1) (ics (L'.map Prod.snd ++ [(now + n)])) from by rw [ics_app]; exact ho)
                    have HB47 := Lib.hid (HB46.out.grown hg HB46.out.size (fun g hg => (HO15_46.out.lt g hg).1))
                    have ht : Turn (fun k => (Value.slice A15_46 m c15_46).ownBlock = some k) y46 y47 := Turn.grown (Turn.refl _ _) hg (fun k hk _ => hk)
                    have HO10_47 := Lib.hid (ht.own HO10_46.out (fun g hg e => HE15_46.out g hg e))
                    clear ho hg hl ht
                    have kb47 := Blk.below HPb.out HB47.out HPb.out.lt
                    have ka47 := Blk.below HAc.out HB47.out HAc.out.lt
                    have q1 := kb47.cell 1
                    have q2 := kb47.cell 2
                    have q0 := kb47.cell 0
                    have a1 := ka47.cell 1
                    have a2 := ka47.cell 2
                    simp only [List.getElem?_toArray, List.getElem?_cons_zero, List.getElem?_cons_succ] at q1 q2 q0 a1 a2
                    refine hK.out _ _ (fun _ => ⟨q1, q2, q0, a1, a2⟩) (fun hHeld => ?_)
                    clear hK K q1 q2 q0 a1 a2 kb47 ka47
                    have hHeld := hHeld (by decide)
                    clear hHeld
                    try simp only [Act.put, List.setIfInBounds_toArray, List.set_cons_zero, List.set_cons_succ]
                    refine wpM_pure (i := 25) (v := ?_) rfl (by kernel_rfl) (by kernel_rfl) (by kernel_rfl) (by kernel_rfl) (fun _ _ _ h => h) (Or.inl ⟨by rfl, ?_⟩) ?_
                    rotate_left
                    · (intro w hSw; first | (go_simp; done) | (go_simp; with_reducible rfl))
                    try simp only [Act.put, List.setIfInBounds_toArray, List.set_cons_zero, List.set_cons_succ]
                    refine wpM_pure (i := 26) (v := ?_) rfl (by kernel_rfl) (by kernel_rfl) (by kernel_rfl) (by kernel_rfl) (fun _ _ _ h => h) (Or.inl ⟨by rfl, ?_⟩) ?_
                    rotate_left
                    · (intro w hSw; first | (go_simp; done) | (go_simp; with_reducible rfl))
                    try simp only [Act.put, List.setIfInBounds_toArray, List.set_cons_zero, List.set_cons_succ]
                    have kb := Blk.below HPb.out HB47.out HPb.out.lt
                    have r1 := kb.frozen 1
                    have hbl := HB47.out
                    refine wpM_ready (rs := [27]) (by kernel_rfl) (by simp) ?_
                    refine AllM.cons rfl (fun K hK => ?_) AllM.nil
                    go_simp
                    refine hK.out _ _ (fun h => absurd h (by decide)) (fun hHeld => ?_)
                    clear hK K hHeld
                    try simp only [Act.put, List.setIfInBounds_toArray, List.set_cons_zero, List.set_cons_succ]
                    refine wpM_pure (i := 28) (v := ?_) rfl (by kernel_rfl) (by kernel_rfl) (by kernel_rfl) (by kernel_rfl) (fun _ _ _ h => h) (Or.inl ⟨by rfl, ?_⟩) ?_
                    rotate_left
                    · (intro w hSw; first | (go_simp; done) | (go_simp; with_reducible rfl))
                    try simp only [Act.put, List.setIfInBounds_toArray, List.set_cons_zero, List.set_cons_succ]
                    refine wpM_pure (i := 29) (v := ?_) rfl (by kernel_rfl) (by kernel_rfl) (by kernel_rfl) (by kernel_rfl) (fun _ _ _ h => h) (Or.inl ⟨by rfl, ?_⟩) ?_
                    rotate_left
                    · (intro w hSw; first | (go_simp; done) | (go_simp; with_reducible rfl))
                    try simp only [Act.put, List.setIfInBounds_toArray, List.set_cons_zero, List.set_cons_succ]
                    have kb2 := kb.set_ 1 (.slice A10_45 (m + 1) c10_45)
                    have r2 := kb2.frozen 2
                    refine wpM_ready (rs := [30]) (by kernel_rfl) (by simp) ?_
                    refine AllM.cons rfl (fun K hK => ?_) AllM.nil
                    go_simp
                    refine hK.out _ _ (fun h => absurd h (by decide)) (fun hHeld => ?_)
                    clear hK K hHeld
                    try simp only [Act.put, List.setIfInBounds_toArray, List.set_cons_zero, List.set_cons_succ]
                    refine wpM_done (by kernel_rfl) ?_ _
                    have kb3 := kb2.set_ 2 (.slice A24_47 (m + 1) c24_47)
                    simp only [List.setIfInBounds_toArray, List.set_cons_zero, List.set_cons_succ] at kb3
                    have ne10 := own_blk_ne HO10_47.out kb (by decide)
                    have ne24 := own_blk_ne HO24_47.out kb (by decide)
                    have o10 := own_far (own_far HO10_47.out (p := ⟨pb, 1, none⟩) ne10 (.slice A10_45 (m + 1) c10_45)) (p := ⟨pb, 2, none⟩) ne10 (.slice A24_47 (m + 1) c24_47)
                    have o24 := own_far (own_far HO24_47.out (p := ⟨pb, 1, none⟩) ne24 (.slice A10_45 (m + 1) c10_45)) (p := ⟨pb, 2, none⟩) ne24 (.slice A24_47 (m + 1) c24_47)
                    have htz : Turn (fun k => k = pb) wc ((y47.setCell ⟨pb, 1, none⟩ (.slice A10_45 (m + 1) c10_45)).setCell ⟨pb, 2, none⟩ (.slice A24_47 (m + 1) c24_47)) := ((Turn.of_below (Z := fun k => k = pb) hbl).set_ ⟨pb, 1, none⟩ _ rfl).set_ ⟨pb, 2, none⟩ _ rfl
                    obtain ⟨wz, hwz⟩ : ∃ wz, (y47.setCell ⟨pb, 1, none⟩ (.slice A10_45 (m + 1) c10_45)).setCell ⟨pb, 2, none⟩ (.slice A24_47 (m + 1) c24_47) = wz := ⟨_, rfl⟩
                    rw [hwz] at kb3 o10 o24 htz ⊢
                    have HX := Lib.hid (put_done HJ5.out HMm.out kb3 o10 o24 htz)
                    have HTx := Lib.hid (HT5.out.trans (htz.mono (Z' := fun k => k = cb ∨ k = bm ∨ k = pb) (fun _ _ h => Or.inr (Or.inr h))))
                    clear kb kb2 kb3 r1 r2 hbl ne10 ne24 o10 o24 htz hwz
                    go_wp2_with fail
                    have KNow := Lib.hid (fun q => (now_any (HX.out.drewN q).cs.ck).mono (R' := fun e w' => e = .returned (.int .i64 _) ∧ w' = wz.drewN q) (fun _ _ he => ⟨he.1, he.2.symm⟩))
                    obtain ⟨pv1, pv2, hpb9, -, -⟩ := HX.out.pl.ex
                    have hp90 := hpb9.cell 0
                    simp only [List.getElem?_toArray, List.getElem?_cons_zero, List.getElem?_cons_succ] at hp90
                    clear hpb9
                    go_big_quiet ((go_at_call 13; exact Calls.quiet_of_same (KNow.out _)))
                    go_wp2_with fail
                    go_ret
                    exact ⟨rfl, ⟨⟨_, _, _, _, HX.out.drewN nq, by omega, by omega, by omega⟩, HTx.out.drewN nq⟩⟩
    · have HO := Lib.hid (set_off HJ1.out.cs.ck (p := id) (t := n) (by omega))
      by_cases h1 : 1 ≤ n
      · have h2 : ¬ n ≤ 1048576 := fun h => hmay ⟨h1, h⟩
        clear hmay
        go_wp2_with fail
        refine HO.out.mono ?_
        rintro e w3 ⟨rfl, rfl⟩
        clear HO
        go_wp2_with fail
        have KNow := Lib.hid (fun q => (now_any (HJ1.out.drewN q).cs.ck).mono (R' := fun e w' => e = .returned (.int .i64 _) ∧ w' = wc.drewN q) (fun _ _ he => ⟨he.1, he.2.symm⟩))
        obtain ⟨pv1, pv2, hpb9, -, -⟩ := HJ1.out.pl.ex
        have hp90 := hpb9.cell 0
        simp only [List.getElem?_toArray, List.getElem?_cons_zero, List.getElem?_cons_succ] at hp90
        clear hpb9
        go_big_quiet ((go_at_call 13; exact Calls.quiet_of_same (KNow.out _)))
        go_wp2_with fail
        go_ret
        exact ⟨rfl, ⟨⟨_, _, _, _, HJ1.out.drewN nq, by omega, by omega, by omega⟩, HT1.out.drewN nq⟩⟩
      · clear hmay
        go_wp2_with fail
        refine HO.out.mono ?_
        rintro e w3 ⟨rfl, rfl⟩
        clear HO
        go_wp2_with fail
        have KNow := Lib.hid (fun q => (now_any (HJ1.out.drewN q).cs.ck).mono (R' := fun e w' => e = .returned (.int .i64 _) ∧ w' = wc.drewN q) (fun _ _ he => ⟨he.1, he.2.symm⟩))
        obtain ⟨pv1, pv2, hpb9, -, -⟩ := HJ1.out.pl.ex
        have hp90 := hpb9.cell 0
        simp only [List.getElem?_toArray, List.getElem?_cons_zero, List.getElem?_cons_succ] at hp90
        clear hpb9
        go_big_quiet ((go_at_call 13; exact Calls.quiet_of_same (KNow.out _)))
        go_wp2_with fail
        go_ret
        exact ⟨rfl, ⟨⟨_, _, _, _, HJ1.out.drewN nq, by omega, by omega, by omega⟩, HT1.out.drewN nq⟩⟩
end Go.Proofs.Ytdljbmjjdjbopaa
