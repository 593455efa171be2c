/- psephoslaw09's do at an act of kind U. (Printed by tools/do9.py.) -/
import Derived.Test.YtdljbmjjdjbopaaDo9
import Derived.Test.YtdljbmjjdjbopaaWithin
import Derived.Test.YtdljbmjjdjbopaaHeldLast2
import Derived.Deep.RegionHeld3
import Derived.Deep.DeepCutAuto
import Derived.Deep.CutBlock
namespace Go.Proofs.Ytdljbmjjdjbopaa
open Go.RowKit Go.Maps Go.Sort
set_option linter.unusedSimpArgs false
set_option linter.unusedVariables false

set_option maxHeartbeats 8000000 in
set_option maxRecDepth 100000 in
theorem do9_U {w0 w : World} {cb bm pb N : Nat} {now : Int} {S : Ts} {L : List (Int × Int)} {dd id n : Int} {v : Int} (h : Jp w0 cb bm pb now N S L w) (hN : N ≤ 900000) (hn0 : 0 ≤ now) (hn1 : now ≤ 900000) (hd : fit dd) (hi : fit id) (hn : fit n) (hv : dd % 8 = v) (hk : v = 7) :
    Calls Try.prog 17 #[.pointer (some ⟨cb, 0, none⟩), .pointer (some ⟨pb, 0, none⟩), .agg #[.int .i64 dd, .int .i64 id, .int .i64 n]] w fun e w' => e = .returned (.bool true) ∧ Did w0 cb bm pb now N w w' := by
  have HJ := Lib.hid h
  have HN := Lib.hid hN
  have HId := Lib.hid hi
  have HNn := Lib.hid hn
  have KW := Lib.hid (fun w => within_any dd 8 (by omega) (by omega) (wf_i64 hd).1 (wf_i64 hd).2 w)
  rw [hv] at KW
  clear h hN hd hi hn hv
  go_enter Try.func17, Try.ntmps17
  go_upto_region 1 with fail
  obtain ⟨H, hH⟩ : ∃ H, w.heap.size = H := ⟨_, rfl⟩
  have hb1 : Below w.heap.size w (w.alloc (.cells #[.int .i64 dd, .int .i64 id, .int .i64 n] 43)) := (Below.refl _ _).alloc (Nat.le_refl _) _
  have hk1 := Blk.new w 43 #[.int .i64 dd, .int .i64 id, .int .i64 n]
  obtain ⟨w1, hw1⟩ : ∃ w1, w.alloc (.cells #[.int .i64 dd, .int .i64 id, .int .i64 n] 43) = w1 := ⟨_, rfl⟩
  have hj1 := HJ.out.below hb1
  rw [hw1] at hk1 hj1 hb1 ⊢
  rw [hH] at hk1 ⊢
  have HK1 := Lib.hid hk1
  have HJ1 := Lib.hid hj1
  have HT1 := Lib.hid (show Turn (fun k => k = cb ∨ k = bm ∨ k = pb) w w1 from Turn.of_below hb1)
  have HHs := Lib.hid (show w.heap.size ≤ H by omega)
  have HL9 := Lib.hid (show L.length ≤ 900000 by have := HJ.out.len; have := HN.out; omega)
  have ha0 := hk1.cell 0
  have ha1 := hk1.cell 1
  have ha2 := hk1.cell 2
  simp only [List.getElem?_toArray, List.getElem?_cons_zero, List.getElem?_cons_succ] at ha0 ha1 ha2
  clear hb1 hk1 hw1 hj1 HJ hH
  go_wp2_with fail
  refine (pfind_any HJ1.out.pl (by have := HL9.out; omega) id).mono ?_
  rintro e u1 ⟨r, rfl, hr, rfl⟩
  have HR := Lib.hid hr
  clear hr
  go_wp2_with fail
  refine (KW.out _).mono ?_
  rintro e u1 ⟨rfl, rfl⟩
  subst hk
  clear HR KW
  go_wp2_with fail
  refine (due_any HJ1.out.cs.ck (by have := HN.out; omega)).mono ?_
  rintro e w3 ⟨v, l, rfl, ho, hdu, hck, ht⟩
  obtain ⟨A, c, rfl, hlc, hcm⟩ := own_slice ho
  have HDu := Lib.hid hdu
  have HLm := Lib.hid (show l.length ≤ maxLen by omega)
  have HCs3 := Lib.hid (show Cs w0 cb bm now N (S.strip l) w3 from ⟨hck, HJ1.out.cs.turned ht (fun _ hk => Or.inr hk), HJ1.out.cs.b0, HJ1.out.cs.b1⟩)
  have HU0 := Lib.hid (show Us w0 cb bm pb now N S w1.heap.size A c l 0 w3 w3 from ⟨HCs3.out, ⟨L, HJ1.out.clock (Or.inr rfl) ht, by rw [List.take_zero, Ts.strip_nil]; exact HJ1.out.tl, HJ1.out.len⟩, ho, Turn.refl _ _⟩)
  have HT3 := Lib.hid (HT1.out.trans (ht.mono (Z' := fun k => k = cb ∨ k = bm ∨ k = pb) (fun _ _ h => Or.inr (Or.inl h))))
  have HNe := Lib.hid HJ1.out.ne1
  have HNf := Lib.hid HJ1.out.ne2
  have HP0 := Lib.hid HJ1.out.p0
  have HPlt := Lib.hid HJ1.out.pl.lt
  clear hdu ho hck ht hlc hcm HCs3 HJ1 ha0 ha1 ha2 HK1
  go_wp2_with fail
  go_loopw [27] (fun x wr => ∃ k : Nat, x = .int .i64 (k : Int) ∧ k ≤ l.length ∧ Hid (Us w0 cb bm pb now N S w1.heap.size A c l k w3 wr)) (fun x _ => l.length - (intOf x).toNat)
  case atStart => exact ⟨0, rfl, Nat.zero_le _, HU0⟩
  case round =>
    obtain ⟨k, rfl, hk, HU⟩ := hrel
    by_cases hlt : k < l.length
    · obtain ⟨Lk, hpl, htl, hlk⟩ := HU.out.ex
      have HLk := Lib.hid hlk
      obtain ⟨p, hp⟩ : ∃ p, l[k]? = some p := ⟨_, List.getElem?_eq_getElem hlt⟩
      obtain ⟨f, hf, hfn⟩ := strip_keep HDu.out hp
      obtain ⟨ad, rfl, hcl⟩ := row_cell9 HU.out.row hp
      have HPk := Lib.hid hp
      have HLt := Lib.hid hlt
      clear hlk hp
      by_cases hk0 : k = 0
      · subst hk0
        have hc3 : wr.cell? ad = some (.int .i64 p) := by have h := hcl; simpa [Addr.add] using h
        clear hcl
        go_wp2_with fail
        refine (pfind_any hpl (by have := HLk.out; have := HN.out; omega) p).mono ?_
        rintro e u1 ⟨r2, rfl, hr2, rfl⟩
        obtain ⟨i, rfl, hi⟩ : ∃ i : Nat, r2 = i ∧ (Lk.map Prod.fst)[i]? = some p := by
          rcases hr2 with ⟨_, hno⟩ | h
          · exact absurd (List.mem_map.2 ⟨(p, f), (htl.is p f).1 hf, rfl⟩) hno
          · exact h
        obtain ⟨g, hg⟩ := pair_at hi
        obtain rfl : g = f := by have h1 := htl.got hg; rw [hf] at h1; exact (Option.some.inj h1).symm
        obtain ⟨v1, v2, hpb, ho1, ho2⟩ := hpl.ex
        obtain ⟨A2, c2, rfl, hc2n, hc2m⟩ := own_slice ho2
        have hp0 := hpb.cell 0
        have hp2 := hpb.cell 2
        simp only [List.getElem?_toArray, List.getElem?_cons_zero, List.getElem?_cons_succ] at hp0 hp2
        obtain ⟨ad2, rfl, hce⟩ := row_cell9 ho2 (k := i) (p := g) (by rw [List.getElem?_map, hg]; rfl)
        have hil : i < Lk.length := (List.getElem?_eq_some_iff.1 hg).1
        have HIl := Lib.hid hil
        have HPl := Lib.hid hpl
        have HTl := Lib.hid htl
        have HG := Lib.hid hg
        obtain ⟨m2, hm2⟩ : ∃ m, Lk.length = m := ⟨_, rfl⟩
        rw [hm2] at hp2 hil
        clear hr2 hi hf hpb ho1 ho2 hm2 hg hpl htl hc2n hc2m
        go_wp2_with fail
        have hg0 : decide ((i : Int) < 0) = false := by rw [decide_eq_false_iff_not]; omega
        have hg1 : decide (now < g) = false := by rw [decide_eq_false_iff_not]; omega
        go_big_quiet (fail)
        go_wp2_with fail
        obtain ⟨w4, hw4⟩ : ∃ w4, wr.drewN nq = w4 := ⟨_, rfl⟩
        have HU4 := Lib.hid (show Cs w0 cb bm now N (S.strip l) w4 from hw4 ▸ HU.out.cs.drewN nq)
        have HPl4 := Lib.hid (show Pl w0.heap.size w4 pb now Lk from hw4 ▸ HPl.out.drewN nq)
        have HRow4 := Lib.hid (show w4.ownsRow w1.heap.size 3 1 (.slice (some ad) l.length c) l.length (ics l) from hw4 ▸ (Turn.own (Z := fun _ => False) ((Turn.refl _ wr).drewN nq) HU.out.row (fun _ _ h => h)))
        have HT4 := Lib.hid (show Turn (fun k => k = pb) w3 w4 from hw4 ▸ HU.out.turn.drewN nq)
        rw [hw4]
        clear hw4
        refine (pdrop_any HPl4.out HU4.out.low.size (by have := HLk.out; have := HN.out; omega) HIl.out).mono ?_
        rintro e w5 ⟨rfl, hpl5, ht5⟩
        have HU5 := Lib.hid (show Us w0 cb bm pb now N S w1.heap.size (some ad) c l (0 + 1) w3 w5 from
          ⟨⟨HU4.out.ck.kept ht5 (fun e => HNe.out e.symm) (fun e => HNf.out e.symm), HU4.out.low.trans (ht5.below HU4.out.low.size (fun k hk e => by have := HP0.out; omega)), HU4.out.b0, HU4.out.b1⟩,
           ⟨_, hpl5, by rw [← Ts.strip_next S HPk.out]; exact HTl.out.erase HG.out, by rw [List.length_eraseIdx_of_lt HIl.out]; have := HLk.out; omega⟩,
           ht5.own HRow4.out (fun g hg e => by have h1 := (HRow4.out.lt g hg).1; have h2 := HPlt.out; omega), HT4.out.trans ht5⟩)
        clear hpl5 ht5
        go_wp2_with fail
        exact ⟨⟨1, rfl, HLt.out, HU5⟩, by show l.length - 1 < l.length - 0; have := HLt.out; omega⟩
      · obtain ⟨m, hkm⟩ : ∃ m, k = m + 1 := ⟨k - 1, by omega⟩
        obtain ⟨q, hq⟩ : ∃ q, l[m]? = some q := ⟨_, List.getElem?_eq_getElem (by omega)⟩
        have hup := due_up HDu.out hkm HPk.out hq
        obtain ⟨ad3, he3, hc3⟩ := row_cell9 HU.out.row hq
        cases he3
        have hml : m < l.length := by omega
        have HKm := Lib.hid hkm
        clear hkm hk0 hq
        go_wp2_with fail
        refine (pfind_any hpl (by have := HLk.out; have := HN.out; omega) p).mono ?_
        rintro e u1 ⟨r2, rfl, hr2, rfl⟩
        obtain ⟨i, rfl, hi⟩ : ∃ i : Nat, r2 = i ∧ (Lk.map Prod.fst)[i]? = some p := by
          rcases hr2 with ⟨_, hno⟩ | h
          · exact absurd (List.mem_map.2 ⟨(p, f), (htl.is p f).1 hf, rfl⟩) hno
          · exact h
        obtain ⟨g, hg⟩ := pair_at hi
        obtain rfl : g = f := by have h1 := htl.got hg; rw [hf] at h1; exact (Option.some.inj h1).symm
        obtain ⟨v1, v2, hpb, ho1, ho2⟩ := hpl.ex
        obtain ⟨A2, c2, rfl, hc2n, hc2m⟩ := own_slice ho2
        have hp0 := hpb.cell 0
        have hp2 := hpb.cell 2
        simp only [List.getElem?_toArray, List.getElem?_cons_zero, List.getElem?_cons_succ] at hp0 hp2
        obtain ⟨ad2, rfl, hce⟩ := row_cell9 ho2 (k := i) (p := g) (by rw [List.getElem?_map, hg]; rfl)
        have hil : i < Lk.length := (List.getElem?_eq_some_iff.1 hg).1
        have HIl := Lib.hid hil
        have HPl := Lib.hid hpl
        have HTl := Lib.hid htl
        have HG := Lib.hid hg
        obtain ⟨m2, hm2⟩ : ∃ m, Lk.length = m := ⟨_, rfl⟩
        rw [hm2] at hp2 hil
        clear hr2 hi hf hpb ho1 ho2 hm2 hg hpl htl hc2n hc2m
        go_wp2_with fail
        have hkm := HKm.out
        have hm1 : (k : Int) - 1 = (m : Int) := by omega
        have hwm : wrap64 (m : Int) = m := wrap_lt hml HLm.out
        have HWk : Hid (wrap64 ((k : Int) + 1) = (k : Int) + 1) := Lib.hid (wrap_up HLt.out HLm.out)
        have hg0 : decide ((i : Int) < 0) = false := by rw [decide_eq_false_iff_not]; omega
        have hg1 : decide (now < g) = false := by rw [decide_eq_false_iff_not]; omega
        have hg3 : decide (p ≤ q) = false := by rw [decide_eq_false_iff_not]; omega
        have hg4 : decide ((0 : Int) < (k : Int)) = true := by rw [decide_eq_true_iff]; omega
        have hg5 : decide (0 < k) = true := by rw [decide_eq_true_iff]; omega
        clear hkm
        go_big_quiet (fail)
        go_wp2_with fail
        obtain ⟨w4, hw4⟩ : ∃ w4, wr.drewN nq = w4 := ⟨_, rfl⟩
        have HU4 := Lib.hid (show Cs w0 cb bm now N (S.strip l) w4 from hw4 ▸ HU.out.cs.drewN nq)
        have HPl4 := Lib.hid (show Pl w0.heap.size w4 pb now Lk from hw4 ▸ HPl.out.drewN nq)
        have HRow4 := Lib.hid (show w4.ownsRow w1.heap.size 3 1 (.slice (some ad) l.length c) l.length (ics l) from hw4 ▸ (Turn.own (Z := fun _ => False) ((Turn.refl _ wr).drewN nq) HU.out.row (fun _ _ h => h)))
        have HT4 := Lib.hid (show Turn (fun k => k = pb) w3 w4 from hw4 ▸ HU.out.turn.drewN nq)
        rw [hw4]
        clear hw4
        refine (pdrop_any HPl4.out HU4.out.low.size (by have := HLk.out; have := HN.out; omega) HIl.out).mono ?_
        rintro e w5 ⟨rfl, hpl5, ht5⟩
        have HU5 := Lib.hid (show Us w0 cb bm pb now N S w1.heap.size (some ad) c l (k + 1) w3 w5 from
          ⟨⟨HU4.out.ck.kept ht5 (fun e => HNe.out e.symm) (fun e => HNf.out e.symm), HU4.out.low.trans (ht5.below HU4.out.low.size (fun k hk e => by have := HP0.out; omega)), HU4.out.b0, HU4.out.b1⟩,
           ⟨_, hpl5, by rw [← Ts.strip_next S HPk.out]; exact HTl.out.erase HG.out, by rw [List.length_eraseIdx_of_lt HIl.out]; have := HLk.out; omega⟩,
           ht5.own HRow4.out (fun g hg e => by have h1 := (HRow4.out.lt g hg).1; have h2 := HPlt.out; omega), HT4.out.trans ht5⟩)
        clear hpl5 ht5
        go_wp2_with fail
        go_roundw
        case rel => exact ⟨k + 1, by first | go_num | (rw [HWk.out]; go_num), HLt.out, HU5⟩
        case measure => first | exact meas_on HLt.out | (rw [HWk.out]; exact meas_on HLt.out)
    · obtain rfl : k = l.length := by omega
      obtain ⟨Lk, hpl, htl, hlk⟩ := HU.out.ex
      rw [List.take_length] at htl
      have HX0 := Lib.hid (show Jp w0 cb bm pb now N (S.strip l) Lk wr from ⟨HU.out.cs, hpl, htl, HP0.out, hlk⟩)
      have HTx0 := Lib.hid (HT3.out.trans (HU.out.turn.mono (Z' := fun k => k = cb ∨ k = bm ∨ k = pb) (fun _ _ h => Or.inr (Or.inr h))))
      obtain ⟨v1, v2, hpb, ho1, ho2⟩ := hpl.ex
      obtain ⟨A2, c2, rfl, hc2n, hc2m⟩ := own_slice ho2
      have hp2 := hpb.cell 2
      simp only [List.getElem?_toArray, List.getElem?_cons_zero, List.getElem?_cons_succ] at hp2
      have HLm2 := Lib.hid (show Lk.length ≤ 900000 by have := HN.out; omega)
      clear hpl htl hlk hpb ho1 ho2 hc2n hc2m HU
      go_wp2_with fail
      clear hp2
      go_loopw [7, 77] (fun ok x wr => ok = .bool true ∧ ∃ k : Nat, x = .int .i64 (k : Int) ∧ k ≤ Lk.length ∧ Hid (Jp w0 cb bm pb now N (S.strip l) Lk wr) ∧ Hid (Turn (fun k => k = cb ∨ k = bm ∨ k = pb) w wr)) (fun _ x _ => Lk.length - (intOf x).toNat)
      case atStart => exact ⟨rfl, 0, rfl, Nat.zero_le _, HX0, HTx0⟩
      case round =>
        obtain ⟨rfl, k, rfl, hk, HX, HTx⟩ := hrel
        by_cases hlt : k < Lk.length
        · obtain ⟨v1, v2, hpb, ho1, ho2⟩ := HX.out.pl.ex
          obtain ⟨A3, c3, rfl, hc3n, hc3m⟩ := own_slice ho2
          have hp0 := hpb.cell 0
          have hp2 := hpb.cell 2
          simp only [List.getElem?_toArray, List.getElem?_cons_zero, List.getElem?_cons_succ] at hp0 hp2
          obtain ⟨x, hx⟩ : ∃ x, Lk[k]? = some x := ⟨_, List.getElem?_eq_getElem hlt⟩
          obtain ⟨q, f⟩ := x
          obtain ⟨ad3, rfl, hce⟩ := row_cell9 ho2 (k := k) (p := f) (by rw [List.getElem?_map, hx]; rfl)
          have hlate := strip_late HDu.out (HX.out.tl.got hx)
          have HLt := Lib.hid hlt
          clear hpb ho1 ho2 hx hc3n hc3m
          go_wp2_with fail
          have hg1 : decide (now < f) = true := by rw [decide_eq_true_iff]; omega
          go_big_quiet (fail)
          go_wp2_with fail
          have HX4 := Lib.hid (HX.out.drewN nq)
          have HTx4 := Lib.hid (HTx.out.drewN nq)
          have HWk : Hid (wrap64 ((k : Int) + 1) = (k : Int) + 1) := Lib.hid (IntWalk.wrap64_in _ ⟨by have := HLt.out; have := HLm2.out; omega, by have := HLt.out; have := HLm2.out; omega⟩)
          go_roundw
          case rel => exact ⟨by first | rfl | simp, k + 1, by first | go_num | (rw [HWk.out]; go_num), HLt.out, HX4, HTx4⟩
          case measure => first | exact meas_on HLt.out | (rw [HWk.out]; exact meas_on HLt.out)
        · obtain rfl : k = Lk.length := by omega
          go_wp2_with fail
          have KNow := Lib.hid (fun q => (now_any (HX.out.drewN q).cs.ck).mono (R' := fun e w' => e = .returned (.int .i64 _) ∧ w' = wr.drewN q) (fun _ _ he => ⟨he.1, he.2.symm⟩))
          obtain ⟨pv1, pv2, hpb9, -, -⟩ := HX.out.pl.ex
          have hp90 := hpb9.cell 0
          simp only [List.getElem?_toArray, List.getElem?_cons_zero, List.getElem?_cons_succ] at hp90
          clear hpb9
          go_big_quiet ((go_at_call 13; exact Calls.quiet_of_same (KNow.out _)))
          go_wp2_with fail
          go_ret
          exact ⟨rfl, ⟨⟨_, _, _, _, HX.out.drewN nq, by omega, by omega, by omega⟩, HTx.out.drewN nq⟩⟩
end Go.Proofs.Ytdljbmjjdjbopaa
