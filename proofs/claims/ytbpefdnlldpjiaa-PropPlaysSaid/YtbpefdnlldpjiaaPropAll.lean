/- Package prop: All, Ready: a table's requests as a row of the call's own; Since. -/
import Derived.Test.YtbpefdnlldpjiaaPropHas
namespace Go.Proofs.Ytbpefdnlldpjiaa
open Go.RowKit Go.Sort
set_option linter.unusedSimpArgs false

/-- So far: the requests of those among the first k that are asked for. -/
structure Al (w : World) (p : Tr → Bool) (L : List Tr) (k : Nat) (out : List Rq) (v : Value) (wr : World) : Prop where
  own : wr.ownsRow w.heap.size 25 6 v out.length (reqCells out)
  low : Below w.heap.size w wr
  is : out = rqs ((L.take k).filter p)
theorem Al.yes {w wr wz : World} {p : Tr → Bool} {L : List Tr} {k : Nat} {out : List Rq} {v v2 : Value} {x : Tr} (h : Al w p L k out v wr) (hx : L[k]? = some x) (hp : p x = true) (ho : wz.ownsRow w.heap.size 25 6 v2 (out.length + 1) (reqCells out ++ reqCells [x.rq])) (hb : Below w.heap.size w wz) : Al w p L (k + 1) (out ++ [x.rq]) v2 wz := by
  refine ⟨by rw [List.length_append, reqCells_app]; exact ho, hb, ?_⟩
  rw [List.take_add_one, hx, h.is]
  simp [rqs, List.filter_append, hp]
theorem Al.no {w wr wz : World} {p : Tr → Bool} {L : List Tr} {k : Nat} {out : List Rq} {v : Value} {x : Tr} (h : Al w p L k out v wr) (hx : L[k]? = some x) (hp : p x = false) (hb : Below wr.heap.size wr wz) : Al w p L (k + 1) out v wz := by
  refine ⟨below_own h.own hb (Nat.le_refl _), h.low.trans (hb.mono h.low.size), ?_⟩
  rw [List.take_add_one, hx, h.is]
  simp [rqs, List.filter_append, hp]
theorem Al.len {w wr : World} {p : Tr → Bool} {L : List Tr} {k : Nat} {out : List Rq} {v : Value} (h : Al w p L k out v wr) : out.length ≤ k := by
  rw [h.is, rqs_len]
  exact Nat.le_trans (List.length_filter_le _ _) (by rw [List.length_take]; omega)
theorem Al.below {w wr wz : World} {p : Tr → Bool} {L : List Tr} {k : Nat} {out : List Rq} {v : Value} (h : Al w p L k out v wr) (hb : Below wr.heap.size wr wz) : Al w p L k out v wz := ⟨below_own h.own hb (Nat.le_refl _), h.low.trans (hb.mono h.low.size), h.is⟩
theorem Al.done {w wr : World} {p : Tr → Bool} {L : List Tr} {k : Nat} {out : List Rq} {v : Value} (h : Al w p L k out v wr) (hk : L.length ≤ k) : out = rqs (L.filter p) := by
  rw [h.is, List.take_of_length_le hk]
set_option maxHeartbeats 2000000 in
theorem pall_any {w : World} {tb : Nat} {v : Value} {f n : Int} {L : List Tr} (h : Tb w tb v f n L) : Calls Try.prog 23 #[.pointer (some ⟨tb, 0, none⟩)] w fun e w' => ∃ v', e = .returned v' ∧ w'.ownsRow w.heap.size 25 6 v' (rqs L).length (reqCells (rqs L)) ∧ Below w.heap.size w w' := by
  obtain ⟨i0, hi0, hx0, hx1, hx2⟩ := info_parts info_req
  have HT := Lib.hid h
  obtain ⟨A, c, rfl, _, _, hh⟩ := h.has
  have HH := Lib.hid hh
  have c2 := h.blk.cell 2
  simp only [List.getElem?_toArray, List.getElem?_cons_zero, List.getElem?_cons_succ] at c2
  have hm := h.ok.most
  have H13 := Lib.hid h.ok.len
  obtain ⟨n0, hn0⟩ : ∃ n0, L.length = n0 := ⟨_, rfl⟩
  rw [hn0] at c2 hm HT
  have HN := Lib.hid hn0
  clear h hh hn0
  go_enter Try.func23, Try.ntmps23
  go_wp2_with fail
  go_loopw [3, 11] (fun y x wr => ∃ (k : Nat) (out : List Rq), x = .int .i64 k ∧ k ≤ n0 ∧ Hid (Al w (fun _ => true) L k out y wr)) (fun _ x _ => n0 - (intOf x).toNat)
  case atStart => exact ⟨0, [], rfl, Nat.zero_le _, World.ownsRow_nil _ _ _ _, Below.refl _ _, rfl⟩
  case round =>
    obtain ⟨k, out, rfl, hk, HA⟩ := hrel
    by_cases hlt : k < n0
    · have hkL : k < L.length := by rw [HN.out]; exact hlt
      obtain ⟨ad, rfl, hab, hR⟩ := tr_at (HH.out.below HA.out.low (Nat.le_refl _)) hkL
      have HX := Lib.hid (show L[k]? = some L[k] from List.getElem?_eq_getElem hkL)
      have HX13 := Lib.hid (H13.out _ (List.getElem_mem hkL))
      obtain ⟨x, hx⟩ : ∃ x, L[k] = x := ⟨_, rfl⟩
      rw [hx] at hR HX HX13
      obtain ⟨c0, c1, c2', c3, c4, c5, c6, c7⟩ := hR
      obtain ⟨mm, hmm⟩ : ∃ m : Int, (maskS x.bs : Nat) = m := ⟨_, rfl⟩
      rw [hmm] at c6
      have HMM := Lib.hid hmm
      obtain ⟨Av, cv, rfl, -, -⟩ := own_slice HA.out.own
      have HLen := Lib.hid HA.out.len
      have HB8 := Lib.hid (show Below wr.heap.size wr (wr.alloc (.cells #[.int .i64 x.rq.cl, .int .i64 x.rq.tm, .int .i64 x.rq.kd, .int .i64 x.rq.ky, .int .i64 x.rq.vl, .int .i64 x.rq.sg, .int .u16 mm, .int .i64 x.sc] 70)) from (Below.refl _ _).alloc (Nat.le_refl _) _)
      have HK8 := Lib.hid (Blk.new wr 70 #[.int .i64 x.rq.cl, .int .i64 x.rq.tm, .int .i64 x.rq.kd, .int .i64 x.rq.ky, .int .i64 x.rq.vl, .int .i64 x.rq.sg, .int .u16 mm, .int .i64 x.sc])
      obtain ⟨w8, hw8⟩ : ∃ w8, wr.alloc (.cells #[.int .i64 x.rq.cl, .int .i64 x.rq.tm, .int .i64 x.rq.kd, .int .i64 x.rq.ky, .int .i64 x.rq.vl, .int .i64 x.rq.sg, .int .u16 mm, .int .i64 x.sc] 70) = w8 := ⟨_, rfl⟩
      have HW8 := Lib.hid hw8
      rw [hw8] at HB8 HK8
      clear hx hkL hmm hw8
      rw [← HW8.out] at HB8
      clear HK8 HW8
      have HBz := HB8
      have HNw := Lib.hid (show Has ((wr.alloc (.cells #[.int .i64 x.rq.cl, .int .i64 x.rq.tm, .int .i64 x.rq.kd, .int .i64 x.rq.ky, .int .i64 x.rq.vl, .int .i64 x.rq.sg, .int .u16 mm, .int .i64 x.sc] 70)).alloc (.cells #[.int .i64 x.rq.cl, .int .i64 x.rq.tm, .int .i64 x.rq.kd, .int .i64 x.rq.ky, .int .i64 x.rq.vl, .int .i64 x.rq.sg] 25)) ((wr.alloc (.cells #[.int .i64 x.rq.cl, .int .i64 x.rq.tm, .int .i64 x.rq.kd, .int .i64 x.rq.ky, .int .i64 x.rq.vl, .int .i64 x.rq.sg, .int .u16 mm, .int .i64 x.sc] 70)).heap.size + 1) (some ⟨wr.heap.size + 1, 0, none⟩) (reqCells [x.rq]) from by have h9 := Has.fresh (wr.alloc (.cells #[.int .i64 x.rq.cl, .int .i64 x.rq.tm, .int .i64 x.rq.kd, .int .i64 x.rq.ky, .int .i64 x.rq.vl, .int .i64 x.rq.sg, .int .u16 mm, .int .i64 x.sc] 70)) #[.int .i64 x.rq.cl, .int .i64 x.rq.tm, .int .i64 x.rq.kd, .int .i64 x.rq.ky, .int .i64 x.rq.vl, .int .i64 x.rq.sg] 25; rw [World.size_alloc] at h9; rw [World.size_alloc]; exact h9)
      have HB9 := Lib.hid (show Below wr.heap.size wr ((wr.alloc (.cells #[.int .i64 x.rq.cl, .int .i64 x.rq.tm, .int .i64 x.rq.kd, .int .i64 x.rq.ky, .int .i64 x.rq.vl, .int .i64 x.rq.sg, .int .u16 mm, .int .i64 x.sc] 70)).alloc (.cells #[.int .i64 x.rq.cl, .int .i64 x.rq.tm, .int .i64 x.rq.kd, .int .i64 x.rq.ky, .int .i64 x.rq.vl, .int .i64 x.rq.sg] 25)) from HBz.out.alloc HBz.out.size _)
      have HOw := Lib.hid (below_own HA.out.own HB9.out (Nat.le_refl _))
      have HOne := Lib.hid (reqCells_one [x.rq])
      have HM1 := Lib.hid (show out.length + 1 ≤ maxLen by have := HLen.out; unfold maxLen; omega)
      have HM2 := Lib.hid (show (out.length + 1) * 48 ≤ 140737488355328 by have := HLen.out; omega)
      have HM3 := Lib.hid (show w.heap.size ≤ ((wr.alloc (.cells #[.int .i64 x.rq.cl, .int .i64 x.rq.tm, .int .i64 x.rq.kd, .int .i64 x.rq.ky, .int .i64 x.rq.vl, .int .i64 x.rq.sg, .int .u16 mm, .int .i64 x.sc] 70)).alloc (.cells #[.int .i64 x.rq.cl, .int .i64 x.rq.tm, .int .i64 x.rq.kd, .int .i64 x.rq.ky, .int .i64 x.rq.vl, .int .i64 x.rq.sg] 25)).heap.size from Nat.le_trans HA.out.low.size HB9.out.size)
      go_wp2_with (at_builtin; refine wpList_apps rfl _ _ 37 rfl w.heap.size 25 i0 _ 6 48 Try.underlying37 hi0 hx0 hx1 hx2 rfl (by decide) _ _ _ rfl HOw.out _ (some ⟨wr.heap.size + 1, 0, none⟩) 1 1 (reqCells [x.rq]) rfl rfl HNw.out (fun h => nomatch h) HOne.out HM1.out HM2.out HM3.out ?_)
      intro v2 w9 ho hg _
      have HA2 := Lib.hid (HA.out.yes HX.out rfl ho ((HA.out.low.trans (HB9.out.mono HA.out.low.size)).grown hg HM3.out (fun k hk => (HOw.out.lt k hk).1)))
      clear ho hg
      go_wp2_with fail
      go_roundw
      case rel => exact ⟨k + 1, out ++ [x.rq], by go_num, by omega, HA2.out⟩
      case measure => simp [intOf]; omega
    · obtain rfl : k = n0 := by omega
      have HE := Lib.hid (show out = rqs (L.filter fun _ => true) from HA.out.done (by rw [HN.out]; exact Nat.le_refl _))
      go_wp2_with fail
      go_ret
      have HE2 : out = rqs L := by rw [HE.out, List.filter_eq_self.2 (fun _ _ => rfl)]
      exact ⟨_, rfl, HE2 ▸ HA.out.own, HA.out.low⟩
set_option maxHeartbeats 2000000 in
theorem preadies_any {w : World} {tb : Nat} {v : Value} {f n : Int} {L : List Tr} (h : Tb w tb v f n L) : Calls Try.prog 14 #[.pointer (some ⟨tb, 0, none⟩)] w fun e w' => ∃ v', e = .returned v' ∧ w'.ownsRow w.heap.size 25 6 v' (readyT f L).length (reqCells (readyT f L)) ∧ Below w.heap.size w w' := by
  obtain ⟨i0, hi0, hx0, hx1, hx2⟩ := info_parts info_req
  have HT := Lib.hid h
  obtain ⟨A, c, rfl, _, _, hh⟩ := h.has
  have HH := Lib.hid hh
  have c2 := h.blk.cell 2
  simp only [List.getElem?_toArray, List.getElem?_cons_zero, List.getElem?_cons_succ] at c2
  have hm := h.ok.most
  have H13 := Lib.hid h.ok.len
  obtain ⟨n0, hn0⟩ : ∃ n0, L.length = n0 := ⟨_, rfl⟩
  rw [hn0] at c2 hm HT
  have HN := Lib.hid hn0
  clear h hh hn0
  go_enter Try.func14, Try.ntmps14
  go_wp2_with fail
  go_loopw [3, 11] (fun y x wr => ∃ (k : Nat) (out : List Rq), x = .int .i64 k ∧ k ≤ n0 ∧ Hid (Al w (isReady f) L k out y wr)) (fun _ x _ => n0 - (intOf x).toNat)
  case atStart => exact ⟨0, [], rfl, Nat.zero_le _, World.ownsRow_nil _ _ _ _, Below.refl _ _, rfl⟩
  case round =>
    obtain ⟨k, out, rfl, hk, HA⟩ := hrel
    by_cases hlt : k < n0
    · have hkL : k < L.length := by rw [HN.out]; exact hlt
      obtain ⟨ad, rfl, hab, hR⟩ := tr_at (HH.out.below HA.out.low (Nat.le_refl _)) hkL
      have HX := Lib.hid (show L[k]? = some L[k] from List.getElem?_eq_getElem hkL)
      have HX13 := Lib.hid (H13.out _ (List.getElem_mem hkL))
      obtain ⟨x, hx⟩ : ∃ x, L[k] = x := ⟨_, rfl⟩
      rw [hx] at hR HX HX13
      obtain ⟨c0, c1, c2', c3, c4, c5, c6, c7⟩ := hR
      obtain ⟨mm, hmm⟩ : ∃ m : Int, (maskS x.bs : Nat) = m := ⟨_, rfl⟩
      rw [hmm] at c6
      have HMM := Lib.hid hmm
      obtain ⟨Av, cv, rfl, -, -⟩ := own_slice HA.out.own
      have HLen := Lib.hid HA.out.len
      have HB8 := Lib.hid (show Below wr.heap.size wr (wr.alloc (.cells #[.int .i64 x.rq.cl, .int .i64 x.rq.tm, .int .i64 x.rq.kd, .int .i64 x.rq.ky, .int .i64 x.rq.vl, .int .i64 x.rq.sg, .int .u16 mm, .int .i64 x.sc] 70)) from (Below.refl _ _).alloc (Nat.le_refl _) _)
      have HK8 := Lib.hid (Blk.new wr 70 #[.int .i64 x.rq.cl, .int .i64 x.rq.tm, .int .i64 x.rq.kd, .int .i64 x.rq.ky, .int .i64 x.rq.vl, .int .i64 x.rq.sg, .int .u16 mm, .int .i64 x.sc])
      obtain ⟨w8, hw8⟩ : ∃ w8, wr.alloc (.cells #[.int .i64 x.rq.cl, .int .i64 x.rq.tm, .int .i64 x.rq.kd, .int .i64 x.rq.ky, .int .i64 x.rq.vl, .int .i64 x.rq.sg, .int .u16 mm, .int .i64 x.sc] 70) = w8 := ⟨_, rfl⟩
      have HW8 := Lib.hid hw8
      rw [hw8] at HB8 HK8
      clear hx hkL hmm hw8
      have HTz := Lib.hid ((HT.out.below HA.out.low).below HB8.out)
      have HPR := Lib.hid (pready_any HTz.out HX13.out)
      rw [HMM.out] at HPR
      cases hp : isReady f x
      · rw [hp] at HPR
        have HNo := Lib.hid hp
        clear hp
        go_wp2_with fail
        rw [HW8.out]
        go_wp2_with fail
        refine HPR.out.mono ?_
        rintro e wz ⟨rfl, hbz⟩
        have HA2 := Lib.hid (HA.out.no HX.out HNo.out (HB8.out.trans (hbz.mono HB8.out.size)))
        clear hbz
        go_wp2_with fail
        go_roundw
        case rel => exact ⟨k + 1, out, by go_num, by omega, HA2.out⟩
        case measure => simp [intOf]; omega
      · rw [hp] at HPR
        have HYes := Lib.hid hp
        clear hp
        go_wp2_with fail
        rw [HW8.out]
        go_wp2_with fail
        refine HPR.out.mono ?_
        rintro e wz ⟨rfl, hbz⟩
        have HBz := Lib.hid (HB8.out.trans (hbz.mono HB8.out.size))
        have HKz := Lib.hid (HK8.out.below hbz HK8.out.lt)
        clear hbz
        have e0 := HKz.out.cell 0
        have e1 := HKz.out.cell 1
        have e2 := HKz.out.cell 2
        have e3 := HKz.out.cell 3
        have e4 := HKz.out.cell 4
        have e5 := HKz.out.cell 5
        simp only [List.getElem?_toArray, List.getElem?_cons_zero, List.getElem?_cons_succ] at e0 e1 e2 e3 e4 e5
        have HNw := Lib.hid (show Has (wz.alloc (.cells #[.int .i64 x.rq.cl, .int .i64 x.rq.tm, .int .i64 x.rq.kd, .int .i64 x.rq.ky, .int .i64 x.rq.vl, .int .i64 x.rq.sg] 25)) (wz.heap.size + 1) (some ⟨wz.heap.size, 0, none⟩) (reqCells [x.rq]) from Has.fresh wz #[.int .i64 x.rq.cl, .int .i64 x.rq.tm, .int .i64 x.rq.kd, .int .i64 x.rq.ky, .int .i64 x.rq.vl, .int .i64 x.rq.sg] 25)
        have HB9 := Lib.hid (show Below wr.heap.size wr (wz.alloc (.cells #[.int .i64 x.rq.cl, .int .i64 x.rq.tm, .int .i64 x.rq.kd, .int .i64 x.rq.ky, .int .i64 x.rq.vl, .int .i64 x.rq.sg] 25)) from HBz.out.alloc HBz.out.size _)
        have HOw := Lib.hid (below_own HA.out.own HB9.out (Nat.le_refl _))
        have HOne := Lib.hid (reqCells_one [x.rq])
        have HM1 := Lib.hid (show out.length + 1 ≤ maxLen by have := HLen.out; unfold maxLen; omega)
        have HM2 := Lib.hid (show (out.length + 1) * 48 ≤ 140737488355328 by have := HLen.out; omega)
        have HM3 := Lib.hid (show w.heap.size ≤ (wz.alloc (.cells #[.int .i64 x.rq.cl, .int .i64 x.rq.tm, .int .i64 x.rq.kd, .int .i64 x.rq.ky, .int .i64 x.rq.vl, .int .i64 x.rq.sg] 25)).heap.size from Nat.le_trans HA.out.low.size HB9.out.size)
        go_wp2_with (at_builtin; refine wpList_apps rfl _ _ 37 rfl w.heap.size 25 i0 _ 6 48 Try.underlying37 hi0 hx0 hx1 hx2 rfl (by decide) _ _ _ rfl HOw.out _ (some ⟨wz.heap.size, 0, none⟩) 1 1 (reqCells [x.rq]) rfl rfl HNw.out (fun h => nomatch h) HOne.out HM1.out HM2.out HM3.out ?_)
        intro v2 w9 ho hg _
        have HA2 := Lib.hid (HA.out.yes HX.out HYes.out ho ((HA.out.low.trans (HB9.out.mono HA.out.low.size)).grown hg HM3.out (fun k hk => (HOw.out.lt k hk).1)))
        clear ho hg
        go_wp2_with fail
        go_roundw
        case rel => exact ⟨k + 1, out ++ [x.rq], by go_num, by omega, HA2.out⟩
        case measure => simp [intOf]; omega
    · obtain rfl : k = n0 := by omega
      have HE := Lib.hid (show out = readyT f L from HA.out.done (by rw [HN.out]; exact Nat.le_refl _))
      go_wp2_with fail
      go_ret
      exact ⟨_, rfl, HE.out ▸ HA.out.own, HA.out.low⟩
set_option maxHeartbeats 1000000 in
theorem psince_any {w : World} {tb : Nat} {v : Value} {f n : Int} {L : List Tr} (h : Tb w tb v f n L) (r : Rq) : Calls Try.prog 13 #[.pointer (some ⟨tb, 0, none⟩), .agg #[.int .i64 r.cl, .int .i64 r.tm, .int .i64 r.kd, .int .i64 r.ky, .int .i64 r.vl, .int .i64 r.sg]] w fun e w' => e = .returned (.tuple #[.int .i64 (sinceT f L r).1, .bool (sinceT f L r).2]) ∧ Below w.heap.size w w' := by
  have HB0 := Lib.hid (show Below w.heap.size w ((w.alloc (.cells #[.int .i64 r.cl, .int .i64 r.tm, .int .i64 r.kd, .int .i64 r.ky, .int .i64 r.vl, .int .i64 r.sg] 25))) from (Below.refl _ _).alloc (Nat.le_refl _) _)
  have HT := Lib.hid (h.below HB0.out)
  have HF := Lib.hid (pfind_any HT.out r)
  have hs : seat L r ≤ 16 := Nat.le_trans (seat_le L r) h.ok.most
  clear h
  obtain ⟨k, hk⟩ : ∃ k, seat L r = k := ⟨_, rfl⟩
  rw [hk] at HF hs
  have HS := Lib.hid hk
  cases hb : had L r
  · rw [hb] at HF
    have HD := Lib.hid (show sinceT f L r = (0, false) by unfold sinceT; rw [hb]; rfl)
    clear hb hk
    go_enter Try.func13, Try.ntmps13
    go_wp2_with fail
    refine HF.out.mono ?_
    rintro e w2 ⟨rfl, hb2⟩
    have HB2 := Lib.hid (HB0.out.trans (hb2.mono HB0.out.size))
    clear hb2
    go_wp2_with fail
    go_ret2
    exact ⟨by rw [HD.out]; rfl, HB2.out⟩
  · rw [hb] at HF
    have HH := Lib.hid (fun (w2 : World) (hb2 : Below (w.alloc (.cells #[.int .i64 r.cl, .int .i64 r.tm, .int .i64 r.kd, .int .i64 r.ky, .int .i64 r.vl, .int .i64 r.sg] 25)).heap.size (w.alloc (.cells #[.int .i64 r.cl, .int .i64 r.tm, .int .i64 r.kd, .int .i64 r.ky, .int .i64 r.vl, .int .i64 r.sg] 25)) w2) => (HT.out.below hb2).here hb)
    have HD := Lib.hid (show sinceT f L r = if isReady f (rowOf L r) = true then ((rowOf L r).sc, true) else (0, false) by unfold sinceT; rw [hb]; simp)
    clear hb hk
    go_enter Try.func13, Try.ntmps13
    go_wp2_with fail
    refine HF.out.mono ?_
    rintro e w2 ⟨rfl, hb2⟩
    have HB2 := Lib.hid (HB0.out.trans (hb2.mono HB0.out.size))
    have HT2 := Lib.hid (HT.out.below hb2)
    obtain ⟨ad, c, rfl, hkl, hab, hR, hl⟩ := HH.out w2 hb2
    rw [HS.out] at hkl hR
    obtain ⟨x, hx⟩ : ∃ x, rowOf L r = x := ⟨_, rfl⟩
    rw [hx] at hR hl HD
    have HRA := Lib.hid hR
    have HPR := Lib.hid (pready_any HT2.out hl)
    obtain ⟨c0, c1, c2, c3, c4, c5, c6, c7⟩ := hR
    obtain ⟨mm, hmm⟩ : ∃ m : Int, (maskS x.bs : Nat) = m := ⟨_, rfl⟩
    rw [hmm] at c6 HPR
    have q2 := HT2.out.blk.cell 2
    simp only [List.getElem?_toArray, List.getElem?_cons_zero, List.getElem?_cons_succ] at q2
    have HQ2 := Lib.hid q2
    obtain ⟨n0, hn0⟩ : ∃ n0, L.length = n0 := ⟨_, rfl⟩
    rw [hn0] at hkl q2 HQ2
    have hki : (k : Int) < (n0 : Int) := by omega
    have HAB := Lib.hid hab
    clear hb2 hl hn0 hx hmm hab
    cases hp : isReady f x
    · rw [hp] at HPR HD
      clear hp
      go_wp2_with fail
      refine HPR.out.mono ?_
      rintro e w3 ⟨rfl, hb3⟩
      have HB3 := Lib.hid (HB2.out.trans (hb3.mono HB2.out.size))
      clear hb3
      go_wp2_with fail
      go_ret2
      exact ⟨by rw [HD.out]; rfl, HB3.out⟩
    · rw [hp] at HPR HD
      clear hp
      go_wp2_with fail
      refine HPR.out.mono ?_
      rintro e w3 ⟨rfl, hb3⟩
      have HB3 := Lib.hid (HB2.out.trans (hb3.mono HB2.out.size))
      have q3 : w3.cell? ⟨tb, 2, none⟩ = some (.slice (some ad) n0 c) := (World.cell?_of_block (a := ⟨tb, 2, none⟩) (hb3.block tb HT2.out.blk.lt)).trans HQ2.out
      have q7 := (HRA.out.back (w' := w3) (hb3.block _ (by rw [addr_block]; exact HAB.out))).c7
      clear hb3 c0 c1 c2 c3 c4 c5 c6 c7 q2
      go_wp2_with fail
      go_ret2
      exact ⟨by rw [HD.out]; rfl, HB3.out⟩
end Go.Proofs.Ytbpefdnlldpjiaa
