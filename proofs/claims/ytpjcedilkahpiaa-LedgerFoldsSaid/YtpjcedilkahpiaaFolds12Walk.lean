/- The walk of LedgerFolds. -/
import Derived.Test.YtpjcedilkahpiaaOnce12Walk
import Derived.Test.YtpjcedilkahpiaaReqRow
namespace Go.Proofs.Ytpjcedilkahpiaa
open Go.RowKit
set_option linter.unusedSimpArgs false

theorem Sc.folded (s : Sc) (Q : List Rq) : s.run ((s.ran Q).map En.r ++ Q) = s.run Q ∧ s.ran ((s.ran Q).map En.r ++ Q) = s.ran Q := by
  obtain ⟨h1, h2⟩ := Sc.again Q s
  obtain ⟨h3, h4⟩ := Sc.none_run Q (Sc.stale Q s)
  rw [Sc.run_app, Sc.ran_app, h1, h2, h3, h4, List.append_nil]
  exact ⟨rfl, rfl⟩
/-- While all requests are put into one row. -/
structure RAll (w w1 : World) (L : List Bt) (k : Nat) (v : Value) (wr : World) : Prop where
  row : wr.ownsRow w1.heap.size 34 6 v (allS (L.take k)).length (reqCells (allS (L.take k)))
  low : Below w1.heap.size w1 wr
/-- While the entries' requests are put into one row. -/
structure RAgain (w1 : World) (E : List En) (k : Nat) (v : Value) (wr : World) : Prop where
  row : wr.ownsRow w1.heap.size 34 6 v k (reqCells ((E.take k).map En.r))
  low : Below w1.heap.size w1 wr
set_option maxRecDepth 100000 in
set_option maxHeartbeats 8000000 in
theorem ledgerFolds_walk (a : Int) (A : Option Addr) (c : Nat) (l : List Bt) (at_ : Int) (w : World) (w0 : (Lit.int .i64 a).wf = true) (w1 : IsBats w A l c) (w2 : (Lit.int .i64 at_).wf = true) :
    Calls Try.prog 6 #[.int .i64 a, .slice A l.length c, .int .i64 at_] w fun e w' => e = .returned (.bool true) ∧ Below w.heap.size w w' := by
  obtain ⟨n, hn1, hn4, hW, hwr, hw6⟩ := clients_of w0
  have HW := Lib.hid hW
  have HC := Lib.hid (cut_any w1 w (Below.refl _ _))
  have HBs := Lib.hid w1.cut
  have HN4 := Lib.hid (And.intro hn1 hn4)
  have hNl := allS_cut_len l
  have hLl : (cutS l).length ≤ 20 := by unfold cutS; rw [List.length_map, List.length_take]; omega
  obtain ⟨L, hL⟩ : ∃ L, cutS l = L := ⟨_, rfl⟩
  rw [hL] at HC HBs hNl hLl
  obtain ⟨m, hm⟩ : ∃ m, L.length = m := ⟨_, rfl⟩
  rw [hm] at HC hLl
  have HM := Lib.hid hm
  have HNl := Lib.hid hNl
  have HAt := Lib.hid (fun (n : Int) (h0 : 1 ≤ n) (h1 : n ≤ 4611686018427387904) w => within_any at_ n h0 h1 (wf_i64 w2).1 (wf_i64 w2).2 w)
  clear w0 w1 w2 hW hL hm hNl hn1 hn4
  go_enter Try.func6, Try.ntmps6
  go_wp2_with fail
  refine (HW.out _).mono ?_
  rintro e wv ⟨rfl, rfl⟩
  go_wp2_with fail
  refine HC.out.mono ?_
  rintro e w2 ⟨v, rfl, ho, hb⟩
  obtain ⟨A1, c1, rfl, -, -⟩ := own_slice ho
  have HB2 := Lib.hid hb
  have HR2 := Lib.hid (has_rows ho)
  have HF := Lib.hid (lfold_any HN4.out.1 HN4.out.2 (w := w2) (c := c1) (has_rows ho) ((HBs.out.below hb (Nat.le_refl _)).mono hb.size) HM.out (by omega) (by have := HNl.out; omega))
  clear ho hb HC
  go_wp2_with fail
  refine HF.out.mono ?_
  rintro e w3 ⟨bx, rfl, hl, hbN⟩
  have HB3 := Lib.hid hl.low
  have HL3 := Lib.hid (hl.base HB2.out)
  have HBN := Lib.hid (Nat.le_trans hbN HNl.out)
  have HR3 := Lib.hid (HR2.out.below hl.low (Nat.le_refl _))
  have HS0 := Lib.hid (show RAll w w3 L 0 (.slice none 0 0) w3 from ⟨World.ownsRow_nil _ _ _ _, Below.refl _ _⟩)
  clear hl hbN HF
  go_wp2_with fail
  go_loopw [9, 32] (fun v x wr => ∃ k : Nat, x = .int .i64 k ∧ k ≤ m ∧ Hid (RAll w w3 L k v wr)) (fun _ x _ => m - (intOf x).toNat)
  case atStart => exact ⟨0, rfl, Nat.zero_le _, HS0⟩
  case round =>
    obtain ⟨k, rfl, hk, HS⟩ := hrel
    obtain ⟨A4, c4, rfl, q4, -⟩ := own_slice HS.out.row
    by_cases hlt : k < m
    · have hkl : k < L.length := by rw [HM.out]; exact hlt
      have hw3 := HB2.out.trans (HB3.out.mono HB2.out.size)
      obtain ⟨ad, rfl, _, c0⟩ := (HR3.out.tight.below HS.out.low (Nat.le_refl _)).bat hkl
      obtain ⟨x, hx⟩ : ∃ x, L[k] = x := ⟨_, rfl⟩
      have hxm : x ∈ L := hx ▸ List.getElem_mem hkl
      rw [hx] at c0
      have hAx := ((HBs.out.has x hxm).below hw3 (Nat.le_refl _)).below (HS.out.low.mono hw3.size) (Nat.le_refl _)
      have hcx := (HBs.out.cap x hxm).2
      have hle : (allS (L.take k)).length + x.l.length ≤ 160 := by
        have := allS_le (l := L) (k + 1)
        rw [allS_take hkl, List.length_append, hx] at this
        exact Nat.le_trans this HNl.out
      have HAx := Lib.hid hAx
      have HCx := Lib.hid hcx
      have HLx := Lib.hid (reqCells_len x.l)
      have HOne := Lib.hid (reqCells_one x.l)
      have HM1 := Lib.hid (show (allS (L.take k)).length + x.l.length ≤ maxLen by unfold maxLen; omega)
      have HM2 := Lib.hid (show ((allS (L.take k)).length + x.l.length) * 48 ≤ 140737488355328 by omega)
      have HX := Lib.hid hx
      clear hw3 hxm hAx hcx hle hx q4
      obtain ⟨i0, hi0, hx0, hx1, hx2⟩ := info_parts info_req
      go_wp2_with (at_builtin; refine wpList_apps rfl _ _ 42 rfl w3.heap.size 34 i0 _ 6 48 Try.underlying42 hi0 hx0 hx1 hx2 rfl (by decide) _ _ _ rfl HS.out.row _ x.A x.l.length x.c (reqCells x.l) rfl HLx.out HAx.out HCx.out HOne.out HM1.out HM2.out HS.out.low.size ?_)
      intro v2 w5 ho5 hg5 hl5
      have HS5 := Lib.hid (show RAll w w3 L (k + 1) v2 w5 from ⟨by rw [allS_take hkl, HX.out, List.length_append, reqCells_app]; exact ho5, HS.out.low.grown hg5 HS.out.low.size (fun j hj => (HS.out.row.lt j hj).1)⟩)
      clear ho5 hg5 hl5
      go_wp2_with fail
      go_roundw
      case rel => exact ⟨k + 1, by go_num, by omega, HS5⟩
      case measure => simp [intOf]; omega
    · have he : L.take k = L := List.take_of_length_le (by rw [HM.out]; omega)
      have hrow := HS.out.row
      have hlow := HS.out.low
      rw [he] at hrow q4 ⊢
      have hnil := own_nil hrow
      have hQr := has_rows hrow
      have hlx := HL3.out.below hlow
      obtain ⟨Q, hQ⟩ : ∃ Q, allS L = Q := ⟨_, rfl⟩
      have hNq := HNl.out
      rw [hQ] at hrow hQr hlx hNq q4 ⊢
      obtain ⟨S, hS⟩ : ∃ S, (Sc.new n).run Q = S := ⟨_, rfl⟩
      obtain ⟨E, hE⟩ : ∃ E, (Sc.new n).ran Q = E := ⟨_, rfl⟩
      have hEl : E.length ≤ 160 := by rw [← hE]; exact Nat.le_trans (Sc.ran_len _ _) hNq
      have hfold := Sc.folded (Sc.new n) Q
      rw [hS, hE] at hlx hfold
      have HLx := Lib.hid hlx
      have HS_ := Lib.hid hS
      have HE_ := Lib.hid hE
      have HFo := Lib.hid hfold
      have HQr := Lib.hid hQr
      have HNil := Lib.hid hnil
      obtain ⟨qn, hqn⟩ : ∃ q, Q.length = q := ⟨_, rfl⟩
      have HQn := Lib.hid hqn
      rw [hqn] at hNq q4 ⊢
      have hw1 : wrap64 ((qn : Int) + 1) = (qn : Int) + 1 := IntWalk.wrap64_in _ ⟨by omega, by omega⟩
      have hw2 : IntKind.i64.wrap ((qn : Int) + 1) = (qn : Int) + 1 := IntWalk.i64_in _ ⟨by omega, by omega⟩
      have KW := Lib.hid (HAt.out ((qn : Int) + 1) (by omega) (by omega))
      have hk0 : 0 ≤ at_ % ((qn : Int) + 1) ∧ at_ % ((qn : Int) + 1) < (qn : Int) + 1 := ⟨Int.emod_nonneg _ (by omega), Int.emod_lt_of_pos _ (by omega)⟩
      obtain ⟨kk, hkk⟩ := Int.eq_ofNat_of_zero_le hk0.1
      rw [hkk] at KW hk0
      have hkq : kk ≤ qn := by omega
      have hs1 := fun (w : World) => slice_head (w := w) A4 (n := qn) (c := c4) (k := kk) (by omega)
      have hs2 := fun (w : World) => slice_tail (w := w) A4 (n := qn) (c := c4) (k := kk) hkq
      have HLow := Lib.hid hlow
      have HQ4 := Lib.hid q4
      obtain ⟨A5, hA5⟩ : ∃ A5, tailA A4 c4 kk = A5 := ⟨_, rfl⟩
      have HT5 := Lib.hid (show Has wr wr.heap.size A5 (reqCells (Q.drop kk)) from hA5 ▸ has_tail hQr (by omega) (by omega))
      have HT5n := Lib.hid (show A5 = none → c4 - kk = 0 from fun e => tail_none hnil (hA5 ▸ e))
      rw [hA5] at hs2
      clear hrow hnil hQr hlx hQ hS hE hfold hqn hk0 hkk hlow he hA5 HS HS0 q4
      go_wp2_with fail
      refine (KW.out _).mono ?_
      rintro e wv ⟨rfl, rfl⟩
      have hb5 : Below wr.heap.size wr ((wr.alloc (.cells #[.slice A4 kk c4, .slice none 0 0, .slice A5 (qn - kk) (c4 - kk)] 42)).drew) := ((Below.refl wr.heap.size wr).alloc (Nat.le_refl _) _).drew
      have hl1 : (Q.take kk).length = kk := by rw [List.length_take, HQn.out]; omega
      have hl2 : (Q.drop kk).length = qn - kk := by rw [List.length_drop, HQn.out]
      have hA2 : Has ((wr.alloc (.cells #[.slice A4 kk c4, .slice none 0 0, .slice A5 (qn - kk) (c4 - kk)] 42)).drew) (wr.heap.size + 1) (some ⟨wr.heap.size, 0, none⟩) ([(⟨A4, c4, Q.take kk⟩ : Bt), ⟨none, 0, []⟩, ⟨A5, c4 - kk, Q.drop kk⟩].flatMap Bt.cells) := by
        show Has _ _ _ [.slice A4 (Q.take kk).length c4, .slice none 0 0, .slice A5 (Q.drop kk).length (c4 - kk)]
        rw [hl1, hl2]
        exact (Has.fresh wr #[.slice A4 kk c4, .slice none 0 0, .slice A5 (qn - kk) (c4 - kk)] 42).drew
      have hB2 : HasBs ((wr.alloc (.cells #[.slice A4 kk c4, .slice none 0 0, .slice A5 (qn - kk) (c4 - kk)] 42)).drew) wr.heap.size [(⟨A4, c4, Q.take kk⟩ : Bt), ⟨none, 0, []⟩, ⟨A5, c4 - kk, Q.drop kk⟩] := by
        have h4 := HQ4.out
        refine ⟨fun x hx => ?_, fun x hx => ?_⟩
        · simp only [List.mem_cons, List.not_mem_nil, or_false] at hx
          rcases hx with rfl | rfl | rfl
          · exact (HQr.out.reqs_take kk).below hb5 (Nat.le_refl _)
          · exact Has.nil _ _ _
          · exact HT5.out.below hb5 (Nat.le_refl _)
        · simp only [List.mem_cons, List.not_mem_nil, or_false] at hx
          rcases hx with rfl | rfl | rfl
          · exact ⟨by show (Q.take kk).length ≤ c4; omega, HNil.out⟩
          · exact ⟨Nat.le_refl _, fun _ => rfl⟩
          · exact ⟨by show (Q.drop kk).length ≤ c4 - kk; omega, HT5n.out⟩
      have hall : allS [(⟨A4, c4, Q.take kk⟩ : Bt), ⟨none, 0, []⟩, ⟨A5, c4 - kk, Q.drop kk⟩] = Q := by
        show Q.take kk ++ ([] ++ (Q.drop kk ++ [])) = Q
        rw [List.append_nil, List.nil_append, List.take_append_drop]
      have HB5 := Lib.hid hb5
      have HLx5 := Lib.hid (HLx.out.below hb5)
      have HQr5 := Lib.hid (HQr.out.below hb5 (Nat.le_refl _))
      have hs5 : ((wr.alloc (.cells #[.slice A4 kk c4, .slice none 0 0, .slice A5 (qn - kk) (c4 - kk)] 42)).drew).heap.size = wr.heap.size + 1 := (show (wr.alloc (.cells #[.slice A4 kk c4, .slice none 0 0, .slice A5 (qn - kk) (c4 - kk)] 42)).heap.size = wr.heap.size + 1 by simp)
      obtain ⟨w5, hw5⟩ : ∃ w5, (wr.alloc (.cells #[.slice A4 kk c4, .slice none 0 0, .slice A5 (qn - kk) (c4 - kk)] 42)).drew = w5 := ⟨_, rfl⟩
      have HW5 := Lib.hid hw5
      rw [hw5] at hA2 hB2 HB5 HLx5 HQr5 hs5
      have KF := Lib.hid (lfold_any HN4.out.1 HN4.out.2 (c := 3) (hs5 ▸ hA2) (hB2.mono (by omega)) (m := 3) rfl (by omega) (by rw [hall]; have := HQn.out; omega))
      rw [hall, HS_.out, HE_.out] at KF
      clear hb5 hl1 hl2 hA2 hB2 hall hw5 hs5 HQr HLx
      go_wp2_with fail
      go_region_held3 (fun _ => True) (exact trivial) ((go_at_call 13; rw [HW5.out]; refine KF.out.mono ?_; rintro e w6 ⟨b2, rfl, hl6, hN6⟩))
      have HL6 := Lib.hid hl6
      have HX6 := Lib.hid (HLx5.out.below hl6.low)
      have HQr6 := Lib.hid (HQr5.out.tight.below hl6.low (Nat.le_refl _))
      have KS := Lib.hid (lsame_yes HX6.out.lg hl6.lg (Nat.le_trans HBN.out (by decide)))
      clear hl6 hN6 KF HLx5 HQr5 hs1 hs2 HT5 HT5n HW5 HB5
      go_wp2_with fail
      refine KS.out.mono ?_
      rintro e w7 ⟨rfl, hb7⟩
      have HX7 := Lib.hid (HX6.out.below hb7)
      have HQr7 := Lib.hid (HQr6.out.tight.below hb7 (Nat.le_refl _))
      have KA := Lib.hid (lall_any HX7.out.lg (Nat.le_trans HBN.out (by decide)))
      obtain ⟨ee, hee⟩ : ∃ e, E.length = e := ⟨_, rfl⟩
      rw [hee] at KA hEl
      have HEe := Lib.hid hee
      clear hb7 hee KS HX6 HQr6 HL6
      go_wp2_with fail
      refine KA.out.mono ?_
      rintro e w8 ⟨v, rfl, ho8, hb8⟩
      obtain ⟨A8, c8, rfl, -, -⟩ := own_slice ho8
      have HX8 := Lib.hid (HX7.out.below hb8)
      have HQr8 := Lib.hid (HQr7.out.tight.below hb8 (Nat.le_refl _))
      have HE8 := Lib.hid (has_rows ho8)
      have HS8 := Lib.hid (show RAgain w8 E 0 (.slice none 0 0) w8 from ⟨World.ownsRow_nil _ _ _ _, Below.refl _ _⟩)
      clear ho8 hb8 KA HX7 HQr7
      go_wp2_with fail
      go_loopw [14, 83] (fun v x wr => ∃ k : Nat, x = .int .i64 k ∧ k ≤ ee ∧ Hid (RAgain w8 E k v wr)) (fun _ x _ => ee - (intOf x).toNat)
      case atStart => exact ⟨0, rfl, Nat.zero_le _, HS8⟩
      case round =>
        obtain ⟨k, rfl, hk, HS⟩ := hrel
        obtain ⟨A9, c9, rfl, q9, -⟩ := own_slice HS.out.row
        by_cases hlt : k < ee
        · have hkl : k < E.length := by rw [HEe.out]; exact hlt
          obtain ⟨ad, rfl, _, c0, d1, d2, d3, d4, d5, _⟩ := (HE8.out.below HS.out.low (Nat.le_refl _)).ent hkl
          obtain ⟨x, hx⟩ : ∃ x, E[k].r = x := ⟨_, rfl⟩
          rw [hx] at c0 d1 d2 d3 d4 d5
          have hb10 : Below wr.heap.size wr (wr.alloc (.cells #[.int .i64 x.cl, .int .i64 x.tm, .int .i64 x.kd, .int .i64 x.ky, .int .i64 x.vl, .int .i64 x.sg] 34)) := (Below.refl _ _).alloc (Nat.le_refl _) _
          have HO := Lib.hid (below_own HS.out.row hb10 (Nat.le_refl _))
          have HNw := Lib.hid (show Has (wr.alloc (.cells #[.int .i64 x.cl, .int .i64 x.tm, .int .i64 x.kd, .int .i64 x.ky, .int .i64 x.vl, .int .i64 x.sg] 34)) (wr.heap.size + 1) (some ⟨wr.heap.size, 0, none⟩) (reqCells [x]) from Has.fresh wr _ _)
          have HB10 := Lib.hid hb10
          have HOne := Lib.hid (reqCells_one [x])
          have HM1 := Lib.hid (show k + 1 ≤ maxLen by unfold maxLen; omega)
          have HM2 := Lib.hid (show (k + 1) * 48 ≤ 140737488355328 by omega)
          have HM3 := Lib.hid (show w8.heap.size ≤ (wr.alloc (.cells #[.int .i64 x.cl, .int .i64 x.tm, .int .i64 x.kd, .int .i64 x.ky, .int .i64 x.vl, .int .i64 x.sg] 34)).heap.size from Nat.le_trans HS.out.low.size hb10.size)
          have HXx := Lib.hid hx
          clear hx hb10 q9
          obtain ⟨i0, hi0, hx0, hx1, hx2⟩ := info_parts info_req
          go_wp2_with (at_builtin; refine wpList_apps rfl _ _ 42 rfl w8.heap.size 34 i0 _ 6 48 Try.underlying42 hi0 hx0 hx1 hx2 rfl (by decide) _ _ _ rfl HO.out _ (some ⟨wr.heap.size, 0, none⟩) 1 1 (reqCells [x]) rfl rfl HNw.out (fun h => nomatch h) HOne.out HM1.out HM2.out HM3.out ?_)
          intro v2 w11 ho11 hg11 hl11
          have HS11 := Lib.hid (show RAgain w8 E (k + 1) v2 w11 from ⟨by
            rw [list_more hkl, List.map_append, reqCells_app]
            rw [show [E[k]].map En.r = [x] by simp [HXx.out]]
            rw [List.map_take]
            exact ho11, ((HS.out.low.trans (HB10.out.mono HS.out.low.size)).grown hg11 HM3.out (fun j hj => (HS.out.row.lt j hj).1))⟩)
          clear ho11 hg11 hl11
          go_wp2_with fail
          go_roundw
          case rel => exact ⟨k + 1, by go_num, by omega, HS11⟩
          case measure => simp [intOf]; omega
        · obtain rfl : k = ee := by omega
          have hrow := HS.out.row
          have het : E.take k = E := List.take_of_length_le (by rw [HEe.out]; exact Nat.le_refl _)
          rw [het] at hrow
          have hAr := has_rows hrow
          have hnil9 := own_nil hrow
          have HX9 := Lib.hid (HX8.out.below HS.out.low)
          have HE9 := Lib.hid (HE8.out.below HS.out.low (Nat.le_refl _))
          have hQr9 := HQr8.out.tight.below HS.out.low (Nat.le_refl _)
          have hb10 : Below wr.heap.size wr (wr.alloc (.cells #[.slice A9 k c9, .slice A4 qn c4] 42)) := (Below.refl _ _).alloc (Nat.le_refl _) _
          have hl1 : (E.map En.r).length = k := by rw [List.length_map]; exact HEe.out
          have hA3 : Has (wr.alloc (.cells #[.slice A9 k c9, .slice A4 qn c4] 42)) (wr.heap.size + 1) (some ⟨wr.heap.size, 0, none⟩) ([(⟨A9, c9, E.map En.r⟩ : Bt), ⟨A4, c4, Q⟩].flatMap Bt.cells) := by
            show Has _ _ _ [.slice A9 (E.map En.r).length c9, .slice A4 Q.length c4]
            rw [hl1, HQn.out]
            exact Has.fresh wr #[.slice A9 k c9, .slice A4 qn c4] 42
          have hB3 : HasBs (wr.alloc (.cells #[.slice A9 k c9, .slice A4 qn c4] 42)) wr.heap.size [(⟨A9, c9, E.map En.r⟩ : Bt), ⟨A4, c4, Q⟩] := by
            refine ⟨fun x hx => ?_, fun x hx => ?_⟩
            · simp only [List.mem_cons, List.not_mem_nil, or_false] at hx
              rcases hx with rfl | rfl
              · exact hAr.below hb10 (Nat.le_refl _)
              · exact hQr9.tight.below hb10 (Nat.le_refl _)
            · simp only [List.mem_cons, List.not_mem_nil, or_false] at hx
              rcases hx with rfl | rfl
              · exact ⟨by show (E.map En.r).length ≤ c9; omega, hnil9⟩
              · exact ⟨by show Q.length ≤ c4; have := HQ4.out; have := HQn.out; omega, HNil.out⟩
          have hall : allS [(⟨A9, c9, E.map En.r⟩ : Bt), ⟨A4, c4, Q⟩] = E.map En.r ++ Q := by
            show E.map En.r ++ (Q ++ []) = _
            rw [List.append_nil]
          have HX10 := Lib.hid (HX9.out.below hb10)
          have HE10 := Lib.hid (HE9.out.tight.below hb10 (Nat.le_refl _))
          have hs10 : (wr.alloc (.cells #[.slice A9 k c9, .slice A4 qn c4] 42)).heap.size = wr.heap.size + 1 := by simp
          obtain ⟨w10, hw10⟩ : ∃ w10, wr.alloc (.cells #[.slice A9 k c9, .slice A4 qn c4] 42) = w10 := ⟨_, rfl⟩
          have HW10 := Lib.hid hw10
          rw [hw10] at hA3 hB3 HX10 HE10 hs10
          have KF := Lib.hid (lfold_any HN4.out.1 HN4.out.2 (c := 2) (hs10 ▸ hA3) (hB3.mono (by omega)) (m := 2) rfl (by omega) (by rw [hall, List.length_append, hl1]; have := HQn.out; omega))
          rw [hall, HFo.out.1, HFo.out.2] at KF
          clear hrow het hAr hnil9 hQr9 hb10 hl1 hA3 hB3 hall hw10 hs10 HX9 HE9 HS q9 HE8 HX8 HQr8 HS8
          go_wp2_with fail
          rw [HW10.out]
          refine KF.out.mono ?_
          rintro e w11 ⟨b3, rfl, hl11, hN11⟩
          have HX11 := Lib.hid (HX10.out.below hl11.low)
          have HE11 := Lib.hid (HE10.out.tight.below hl11.low (Nat.le_refl _))
          have HN11 := Lib.hid (show b3.N ≤ 1000000 from Nat.le_trans hN11 (by
            have e : (allS [(⟨A9, c9, E.map En.r⟩ : Bt), ⟨A4, c4, Q⟩]).length = k + qn := by
              show (E.map En.r ++ (Q ++ [])).length = _
              rw [List.append_nil, List.length_append, List.length_map, HEe.out, HQn.out]
            first | omega | (rw [List.length_append, List.length_map, HEe.out, HQn.out]; omega)))
          have HL11 := Lib.hid hl11.lg
          have KS := Lib.hid (lsame_yes hl11.lg HX11.out.lg HN11.out)
          clear hl11 hN11 KF HX10 HE10 HW10
          go_wp2_with fail
          refine KS.out.mono ?_
          rintro e w12 ⟨rfl, hb12⟩
          have HX12 := Lib.hid (HX11.out.below hb12)
          have HE12 := Lib.hid (HE11.out.tight.below hb12 (Nat.le_refl _))
          have KA := Lib.hid (lall_any (HL11.out.below hb12) HN11.out)
          rw [HEe.out] at KA
          clear hb12 KS HX11 HE11 HL11
          go_wp2_with fail
          refine KA.out.mono ?_
          rintro e w13 ⟨v, rfl, ho13, hb13⟩
          obtain ⟨A13, c13, rfl, -, -⟩ := own_slice ho13
          have HX13 := Lib.hid (HX12.out.below hb13)
          have KE := Lib.hid (same_ents A13 A8 c13 c8 E E w13.heap.size w13 (by rw [HEe.out]; omega) (has_rows ho13) ((HE12.out.tight.below hb13 (Nat.le_refl _)).tight))
          rw [HEe.out, show sameL E E = true by simp [sameL]] at KE
          clear ho13 hb13 KA HX12 HE12
          go_wp2_with fail
          refine KE.out.mono ?_
          rintro e w14 ⟨rfl, j, rfl⟩
          go_wp2_with fail
          refine (wakes12_any _).mono ?_
          rintro e w15 ⟨rfl, hb15⟩
          go_wp2_with fail
          go_ret
          exact ⟨rfl, (below_drewN HX13.out.low j).trans (hb15.mono HX13.out.low.size)⟩
end Go.Proofs.Ytpjcedilkahpiaa
