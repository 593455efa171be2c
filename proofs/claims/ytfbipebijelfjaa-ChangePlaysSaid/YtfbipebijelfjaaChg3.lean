/- Package change: Enough, Drop; votes that were made since a world; the example of the document. -/
import Derived.Test.YtfbipebijelfjaaChg2
import Derived.Test.YtfbipebijelfjaaRow4
namespace Go.Proofs.Ytfbipebijelfjaa
open Go.RowKit
set_option linter.unusedSimpArgs false

/-- So far: the votes for the view among the first k. -/
structure En16 (w : World) (L : List Cw) (b : Int) (k m : Nat) (u : Value) (wr : World) : Prop where
  own : wr.ownsRow w.heap.size 35 2 u m (voteCells (fC 0 (L.take k) b))
  len : (fC 0 (L.take k) b).length = m
  low : Below w.heap.size w wr
section
variable {w wr wz : World} {L : List Cw} {b : Int} {k m : Nat} {u u2 : Value} {x : Cw}
theorem En16.below (h : En16 w L b k m u wr) (hb : Below wr.heap.size wr wz) : En16 w L b k m u wz := ⟨below_own h.own hb (Nat.le_refl _), h.len, h.low.trans (hb.mono h.low.size)⟩
theorem En16.no (h : En16 w L b k m u wr) (hx : L[k]? = some x) (hn : hitC b x = false) : En16 w L b (k + 1) m u wr := by
  have e : fC 0 (L.take (k + 1)) b = fC 0 (L.take k) b := by rw [fC_next hx, hn]; simp
  exact ⟨by rw [e]; exact h.own, by rw [e]; exact h.len, h.low⟩
theorem En16.yes (h : En16 w L b k m u wr) {p : Int × Int} (hx : L[k]? = some (some p)) (hn : p.1 = b) (ho : wz.ownsRow w.heap.size 35 2 u2 (m + 1) (voteCells (fC 0 (L.take k) b) ++ voteCells [⟨(k : Int), p.2⟩])) (hb : Below w.heap.size w wz) : En16 w L b (k + 1) (m + 1) u2 wz := by
  have e : fC 0 (L.take (k + 1)) b = fC 0 (L.take k) b ++ [⟨(k : Int), p.2⟩] := by
    rw [fC_next hx, if_pos (show hitC b (some p) = true from decide_eq_true hn)]
    rfl
  exact ⟨by rw [e, voteCells_app]; exact ho, by rw [e, List.length_append, h.len]; rfl, hb⟩
theorem En16.le (h : En16 w L b k m u wr) : m ≤ k := by
  have := fC_le (L.take k) 0 b
  rw [h.len, List.length_take] at this
  omega
end
def vtsC (r : Option (List Vt)) : List Vt := r.getD []
set_option maxHeartbeats 4000000 in
theorem cenough_any {w : World} {vb g c : Nat} {f : Int} {L : List Cw} (h : Vq w vb g c f L) (b : Int) {q : Nat} (hq : (q : Int) = 2 * f + 1) :
    Calls Try.prog 11 #[.pointer (some ⟨vb, 0, none⟩), .int .i64 b] w fun e w' => ∃ u, e = .returned (.tuple #[u, .bool (enC L b q).isSome]) ∧ w'.ownsRow w.heap.size 35 2 u (vtsC (enC L b q)).length (voteCells (vtsC (enC L b q))) ∧ Below w.heap.size w w' := by
  obtain ⟨i0, hi0, hx0, hx1, hx2⟩ := info_parts info_vote
  have HQ := Lib.hid (fun (w : World) => (show Calls Try.prog 23 #[.int .i64 f] w fun e w' => e = .returned (.int .i64 (q : Int)) ∧ w = w' from by
    have := bquorum_any f w
    rwa [quorumS_in h.f1 h.f4, ← hq] at this))
  have HK := Lib.hid h.blk
  have HV := Lib.hid h
  have hL : L.length ≤ 13 := by have := h.n1; have := h.f4; omega
  have q0 : 0 < q := by have := h.f1; omega
  have k1 := h.blk.cell 1
  simp only [List.getElem?_toArray, List.getElem?_cons_zero, List.getElem?_cons_succ] at k1
  obtain ⟨n0, hn0⟩ : ∃ y, L.length = y := ⟨_, rfl⟩
  have HN0 := Lib.hid hn0
  rw [hn0] at hL HK k1
  clear h hq hn0
  go_enter Try.func11, Try.ntmps11
  go_wp2_with fail
  go_loopw [6, 14] (fun y x wr => ∃ (k m : Nat), x = .int .i64 k ∧ k ≤ n0 ∧ m < q ∧ Hid (En16 w L b k m y wr)) (fun _ x _ => n0 - (intOf x).toNat)
  case atStart => exact ⟨0, 0, rfl, Nat.zero_le _, q0, ⟨World.ownsRow_nil _ _ _ _, rfl, Below.refl _ _⟩⟩
  case round =>
    obtain ⟨k, m, rfl, hk, hmq, HF⟩ := hrel
    obtain ⟨Au, cu, rfl, -, -⟩ := own_slice HF.out.own
    by_cases hlt : k < n0
    · have hkL : k < L.length := by rw [HN0.out]; exact hlt
      have HVr := Lib.hid (show Vq wr vb g c f L from HV.out.kept (Turn.of_below (Z := fun _ => False) (a := w) (b := wr) HF.out.low) id id)
      obtain ⟨x, hx⟩ : ∃ x, L[k] = x := ⟨_, rfl⟩
      have HX := Lib.hid (show L[k]? = some x by rw [List.getElem?_eq_getElem hkL, hx])
      have HAl := Lib.hid (fun (a b d : Value) => show Below wr.heap.size wr (wr.alloc (.cells #[a, b, d] 60)) from (Below.refl _ _).alloc (Nat.le_refl _) _)
      cases x with
      | none =>
        obtain ⟨d0, d1, d2⟩ := HVr.out.at hkL (a := .bool false) (b := .int .i64 0) (d := .int .i64 0) (by rw [hx]; rfl)
        have HF2 := Lib.hid ((HF.out.no HX.out rfl).below (HAl.out (.bool false) (.int .i64 0) (.int .i64 0)))
        clear hx hkL
        go_wp2_with fail
        go_roundw
        case rel => exact ⟨k + 1, m, by go_num, by omega, hmq, HF2⟩
        case measure => simp [intOf]; omega
      | some p =>
        obtain ⟨pv, ps⟩ := p
        obtain ⟨d0, d1, d2⟩ := HVr.out.at hkL (a := .bool true) (b := .int .i64 pv) (d := .int .i64 ps) (by rw [hx]; rfl)
        by_cases hp : pv = b
        · subst hp
          have g1 : (pv != pv) = false := by simp
          have HB8 := Lib.hid (HAl.out (.bool true) (.int .i64 pv) (.int .i64 ps))
          have HK8 := Lib.hid (Blk.new wr 60 #[.bool true, .int .i64 pv, .int .i64 ps])
          obtain ⟨w8, hw8⟩ : ∃ w8, wr.alloc (.cells #[.bool true, .int .i64 pv, .int .i64 ps] 60) = w8 := ⟨_, rfl⟩
          have HW8 := Lib.hid hw8
          rw [hw8] at HB8 HK8
          have HF8 := Lib.hid (HF.out.below HB8.out)
          have HSb := Lib.hid (HK.out.below HF8.out.low HK.out.lt)
          have HBv := Lib.hid (show Below w8.heap.size w8 (w8.alloc (.cells #[.int .i64 (k : Int), .int .i64 ps] 35)) from (Below.refl _ _).alloc (Nat.le_refl _) _)
          have HOv := Lib.hid (below_own HF8.out.own HBv.out (Nat.le_refl _))
          have HNv := Lib.hid (show Has (w8.alloc (.cells #[.int .i64 (k : Int), .int .i64 ps] 35)) (w8.heap.size + 1) (some ⟨w8.heap.size, 0, none⟩) (voteCells [⟨(k : Int), ps⟩]) from Has.fresh w8 #[.int .i64 (k : Int), .int .i64 ps] 35)
          have HOne := Lib.hid (voteCells_one [⟨(k : Int), ps⟩])
          have hme := HF8.out.le
          have HM1 := Lib.hid (show m + 1 ≤ maxLen by unfold maxLen; omega)
          have HM2 := Lib.hid (show (m + 1) * 16 ≤ 140737488355328 by omega)
          have HM3 := Lib.hid (show w.heap.size ≤ (w8.alloc (.cells #[.int .i64 (k : Int), .int .i64 ps] 35)).heap.size from Nat.le_trans HF8.out.low.size HBv.out.size)
          rw [← HW8.out] at HB8 HK8 HF8 HSb HBv HOv HNv HM3
          have hz8 : (wr.alloc (.cells #[.bool true, .int .i64 pv, .int .i64 ps] 60)).heap.size = wr.heap.size + 1 := by simp
          rw [hz8] at HNv
          clear hx hkL hw8 HW8 HAl hz8
          go_wp2_with (at_builtin; refine wpList_apps rfl _ _ 31 rfl w.heap.size 35 i0 _ 2 16 Try.underlying31 hi0 hx0 hx1 hx2 rfl (by decide) _ _ _ rfl HOv.out _ (some ⟨wr.heap.size + 1, 0, none⟩) 1 1 (voteCells [⟨(k : Int), ps⟩]) rfl rfl HNv.out (fun h => nomatch h) HOne.out HM1.out HM2.out HM3.out ?_)
          intro u2 w10 ho hg _
          have HF10 := Lib.hid (HF8.out.yes HX.out rfl ho ((HF8.out.low.trans (HBv.out.mono HF8.out.low.size)).grown hg HM3.out (fun k hk => (HOv.out.lt k hk).1)))
          have hs10 : Blk w10 vb _ _ := (HSb.out.alloc _).grown hg (fun e => own_blk_ne HOv.out (HSb.out.alloc _) (by decide) e.symm)
          have s0 := hs10.cell 0
          simp only [List.getElem?_toArray, List.getElem?_cons_zero, List.getElem?_cons_succ] at s0
          obtain ⟨A2, c2, rfl, -, -⟩ := own_slice ho
          clear ho hg hs10
          by_cases hq1 : m + 1 = q
          · have HE := Lib.hid (show enC L pv q = some (fC 0 (L.take (k + 1)) pv) from enC_here (by rw [HF10.out.len]; exact hq1))
            have hq2 : ((m : Int) + 1 == (q : Int)) = true := by simp; omega
            go_wp2_with fail
            refine (HQ.out _).mono ?_
            rintro e w11 ⟨rfl, rfl⟩
            go_wp2_with fail
            go_ret2
            refine ⟨.slice A2 q c2, ?_, ?_, HF10.out.low⟩
            · rw [HE.out]; rfl
            · rw [HE.out]
              have := HF10.out.own
              rw [hq1] at this
              show World.ownsRow _ _ _ _ _ (fC 0 (L.take (k + 1)) pv).length (voteCells (fC 0 (L.take (k + 1)) pv))
              rw [HF10.out.len, hq1]
              exact this
          · have hq2 : ((m : Int) + 1 == (q : Int)) = false := by simp; omega
            go_wp2_with fail
            refine (HQ.out _).mono ?_
            rintro e w11 ⟨rfl, rfl⟩
            go_wp2_with fail
            go_roundw
            case rel => exact ⟨k + 1, m + 1, by go_num, by omega, by omega, HF10⟩
            case measure => simp [intOf]; omega
        · have g1 : (pv != b) = true := by simp [hp]
          have HF2 := Lib.hid ((HF.out.no HX.out (decide_eq_false hp)).below (HAl.out (.bool true) (.int .i64 pv) (.int .i64 ps)))
          clear hx hkL hp
          go_wp2_with fail
          go_roundw
          case rel => exact ⟨k + 1, m, by go_num, by omega, hmq, HF2⟩
          case measure => simp [intOf]; omega
    · obtain rfl : k = n0 := by omega
      have HE := Lib.hid (show enC L b q = none from enC_end (k := k) (by rw [HF.out.len]; exact hmq) (by rw [HN0.out]; exact Nat.le_refl _))
      go_wp2_with fail
      go_ret2
      refine ⟨.slice none 0 0, ?_, ?_, HF.out.low⟩
      · rw [HE.out]; rfl
      · rw [HE.out]; exact World.ownsRow_nil _ _ _ _
/-- Behind k places of Drop. -/
structure Dr16 (w : World) (vb g c : Nat) (f : Int) (L : List Cw) (b : Int) (k : Nat) (wr : World) : Prop where
  vq : Vq wr vb g c f (drC (L.take k) b ++ L.drop k)
  turn : Turn (fun j => j = g) w wr
theorem dr_len {L : List Cw} {b : Int} (k : Nat) : (drC (L.take k) b ++ L.drop k).length = L.length := by
  rw [List.length_append, drC_len, List.length_take, List.length_drop]; omega
set_option maxHeartbeats 4000000 in
theorem cdrop_any {w : World} {vb g c : Nat} {f : Int} {L : List Cw} (h : Vq w vb g c f L) (b : Int) :
    Calls Try.prog 13 #[.pointer (some ⟨vb, 0, none⟩), .int .i64 b] w fun e w' => e = .returned (.int .i64 (numC L b : Int)) ∧ Vq w' vb g c f (drC L b) ∧ Turn (fun j => j = g) w w' := by
  have HV := Lib.hid h
  have HNe := Lib.hid h.ne
  have hL : L.length ≤ 13 := by have := h.n1; have := h.f4; omega
  have k1 := h.blk.cell 1
  simp only [List.getElem?_toArray, List.getElem?_cons_zero, List.getElem?_cons_succ] at k1
  have HOk := Lib.hid h.ok
  obtain ⟨n0, hn0⟩ : ∃ y, L.length = y := ⟨_, rfl⟩
  have HN0 := Lib.hid hn0
  rw [hn0] at hL k1
  clear h hn0
  go_enter Try.func13, Try.ntmps13
  go_wp2_with fail
  go_loopw [5, 13] (fun y x wr => ∃ (k m : Nat), x = .int .i64 k ∧ y = .int .i64 m ∧ k ≤ n0 ∧ m ≤ k ∧ m = numC (L.take k) b ∧ Hid (Dr16 w vb g c f L b k wr)) (fun _ x _ => n0 - (intOf x).toNat)
  case atStart => exact ⟨0, 0, rfl, rfl, Nat.zero_le _, Nat.le_refl _, rfl, ⟨HV.out, Turn.refl _ _⟩⟩
  case round =>
    obtain ⟨k, m, rfl, rfl, hk, hmk, hm, HD⟩ := hrel
    have HM := Lib.hid hm
    clear hm
    by_cases hlt : k < n0
    · have hkL : k < L.length := by rw [HN0.out]; exact hlt
      obtain ⟨x, hx⟩ : ∃ x, L[k] = x := ⟨_, rfl⟩
      have hx1 : L[k]? = some x := by rw [List.getElem?_eq_getElem hkL, hx]
      have HX := Lib.hid hx1
      have hkD : k < (drC (L.take k) b ++ L.drop k).length := by rw [dr_len]; exact hkL
      have hxD : (drC (L.take k) b ++ L.drop k)[k] = x := by
        have := dr_at (b := b) hx1
        rw [List.getElem?_eq_getElem hkD] at this
        exact Option.some.inj this
      have HAl := Lib.hid (fun (a b d : Value) => show Below wr.heap.size wr (wr.alloc (.cells #[a, b, d] 60)) from (Below.refl _ _).alloc (Nat.le_refl _) _)
      have HTk := Lib.hid (show belC b x = false → ∀ wz, Below wr.heap.size wr wz → Dr16 w vb g c f L b (k + 1) wz from fun hb wz hz => by
        have e := dr_next (b := b) hx1
        rw [hb, if_neg (by simp)] at e
        have e2 : (drC (L.take k) b ++ L.drop k).set k x = drC (L.take k) b ++ L.drop k := by
          apply List.ext_getElem?
          intro j
          by_cases hj : k = j
          · subst hj
            rw [List.getElem?_set_self hkD, dr_at hx1]
          · rw [List.getElem?_set_ne hj]
        have := HD.out.vq.below hz
        rw [← e2, e] at this
        exact ⟨this, HD.out.turn.trans (Turn.of_below hz)⟩)
      have HNum := Lib.hid (num_next (b := b) hx1)
      cases x with
      | none =>
        obtain ⟨d0, d1, d2⟩ := HD.out.vq.at hkD (a := .bool false) (b := .int .i64 0) (d := .int .i64 0) (by rw [hxD]; rfl)
        have HD2 := Lib.hid (HTk.out rfl _ (HAl.out (.bool false) (.int .i64 0) (.int .i64 0)))
        have hnm : m = numC (L.take (k + 1)) b := by rw [HNum.out, ← HM.out]; rfl
        have HNm := Lib.hid hnm
        clear hx hx1 hxD hkD hkL hnm
        go_wp2_with fail
        go_roundw
        case rel => exact ⟨k + 1, m, by go_num, rfl, by omega, by omega, HNm.out, HD2⟩
        case measure => simp [intOf]; omega
      | some p =>
        obtain ⟨pv, ps⟩ := p
        obtain ⟨d0, d1, d2⟩ := HD.out.vq.at hkD (a := .bool true) (b := .int .i64 pv) (d := .int .i64 ps) (by rw [hxD]; rfl)
        by_cases hp : pv < b
        · have g1 : decide (pv < b) = true := decide_eq_true hp
          have hbel : belC b (some (pv, ps)) = true := decide_eq_true hp
          have hnm : m + 1 = numC (L.take (k + 1)) b := by rw [HNum.out, ← HM.out, hbel]; rfl
          have HNm := Lib.hid hnm
          have HV2 := Lib.hid (HD.out.vq.below (HAl.out (.bool true) (.int .i64 pv) (.int .i64 ps)))
          have e := dr_next (b := b) hx1
          rw [hbel, if_pos rfl] at e
          have HPut := Lib.hid (HV2.out.put hkD (x := none) rfl (by
            rw [e]
            intro p hp
            rcases List.mem_append.1 hp with hp | hp
            · exact OkC.drop (fun q hq => HOk.out q (List.mem_of_mem_take hq)) b p hp
            · exact HOk.out p (List.mem_of_mem_drop hp)))
          rw [e] at HPut
          have HT2 := Lib.hid ((((HD.out.turn.trans (Turn.of_below (HAl.out (.bool true) (.int .i64 pv) (.int .i64 ps)))).set_ ⟨g, k * 3, none⟩ (.bool false) rfl).set_ ⟨g, k * 3 + 1, none⟩ (.int .i64 0) rfl).set_ ⟨g, k * 3 + 2, none⟩ (.int .i64 0) rfl)
          have hb2 := HV2.out.blk.cell 1
          simp only [List.getElem?_toArray, List.getElem?_cons_zero, List.getElem?_cons_succ, dr_len] at hb2
          rw [HN0.out] at hb2
          obtain ⟨t0, t1, t2⟩ := HV2.out.at hkD (a := .bool true) (b := .int .i64 pv) (d := .int .i64 ps) (by rw [hxD]; rfl)
          have e0 := HV2.out.frozen (k * 3)
          have e1 := HV2.out.frozen (k * 3 + 1)
          have e2 := HV2.out.frozen (k * 3 + 2)
          clear hx hx1 hxD hkD hkL hp e hnm hbel
          go_wp2_with fail
          go_roundw
          case rel => exact ⟨k + 1, m + 1, by go_num, by go_num, by omega, by omega, HNm.out, ⟨HPut.out, HT2.out⟩⟩
          case measure => simp [intOf]; omega
        · have g1 : decide (pv < b) = false := decide_eq_false hp
          have hbel : belC b (some (pv, ps)) = false := decide_eq_false hp
          have hnm : m = numC (L.take (k + 1)) b := by rw [HNum.out, ← HM.out, hbel]; rfl
          have HNm := Lib.hid hnm
          have HD2 := Lib.hid (HTk.out hbel _ (HAl.out (.bool true) (.int .i64 pv) (.int .i64 ps)))
          clear hx hx1 hxD hkD hkL hp hnm hbel
          go_wp2_with fail
          go_roundw
          case rel => exact ⟨k + 1, m, by go_num, rfl, by omega, by omega, HNm.out, HD2⟩
          case measure => simp [intOf]; omega
    · obtain rfl : k = n0 := by omega
      have HD2 := Lib.hid (show Vq wr vb g c f (drC L b) ∧ Turn (fun j => j = g) w wr from by
        have h1 := HD.out.vq
        rw [List.take_of_length_le (by rw [HN0.out]; exact Nat.le_refl _), List.drop_of_length_le (by rw [HN0.out]; exact Nat.le_refl _), List.append_nil] at h1
        exact ⟨h1, HD.out.turn⟩)
      have HM2 := Lib.hid (show m = numC L b from by
        rw [HM.out, List.take_of_length_le (by rw [HN0.out]; exact Nat.le_refl _)])
      go_wp2_with fail
      go_ret
      exact ⟨by rw [← HM2.out]; rfl, HD2.out⟩
end Go.Proofs.Ytfbipebijelfjaa
