/- The walk of LedgerApart. -/
import Derived.Test.YtpjcedilkahpiaaOnce12Walk
import Derived.Test.YtpjcedilkahpiaaReqRow
import Derived.Test.YtpjcedilkahpiaaSameVotes
namespace Go.Proofs.Ytpjcedilkahpiaa
open Go.RowKit
set_option linter.unusedSimpArgs false

def filR (q : Nat) (l : List Rq) : List Rq := l.filter fun r => decide (r.cl = (q : Int))
def filE (q : Nat) (l : List En) : List En := l.filter fun e => decide (e.r.cl = (q : Int))
theorem filR_app (q : Nat) (a b : List Rq) : filR q (a ++ b) = filR q a ++ filR q b := List.filter_append _ _
theorem filR_len (q : Nat) (a : List Rq) : (filR q a).length ≤ a.length := List.length_filter_le _ _
theorem filR_yes {q : Nat} {r : Rq} (h : r.cl = (q : Int)) : filR q [r] = [r] := by simp [filR, h]
theorem filR_no {q : Nat} {r : Rq} (h : r.cl ≠ (q : Int)) : filR q [r] = [] := by simp [filR, h]
theorem filE_yes {q : Nat} {e : En} (h : e.r.cl = (q : Int)) : filE q [e] = [e] := by simp [filE, h]
theorem filE_no {q : Nat} {e : En} (h : e.r.cl ≠ (q : Int)) : filE q [e] = [] := by simp [filE, h]
theorem filE_app (q : Nat) (a b : List En) : filE q (a ++ b) = filE q a ++ filE q b := List.filter_append _ _
/-- What one client asks is the same, whatever the others ask. -/
theorem Sc.apart (q : Nat) : ∀ (l : List Rq) (s t : Sc), s.2.length = t.2.length → (atL s.2 q).1 = (atL t.2 q).1 →
    (filE q (s.ran l)).map En.r = (t.ran (filR q l)).map En.r ∧ (atL (s.run l).2 q).1 = (atL (t.run (filR q l)).2 q).1
  | [], _, _, _, h => ⟨rfl, h⟩
  | r :: l, s, t, hl, h => by
    have e0 : filR q (r :: l) = filR q [r] ++ filR q l := filR_app q [r] l
    have e1 : s.ran (r :: l) = s.ents r ++ (s.step r).ran l := rfl
    have e2 : s.run (r :: l) = (s.step r).run l := rfl
    rw [e0, e1, e2, filE_app]
    by_cases hq : r.cl = (q : Int)
    · have his : s.is r = t.is r := by unfold Sc.is; rw [hq, hl, h]
      have hn : (atL (s.step r).2 q).1 = (atL (t.step r).2 q).1 := by
        cases hs : s.is r
        · rw [Sc.step_no hs, Sc.step_no (his ▸ hs)]; exact h
        · rw [Sc.step_yes hs, Sc.step_yes (his ▸ hs), Sc.done_at hs, Sc.done_at (his ▸ hs), if_pos hq.symm, if_pos hq.symm]
      have ih := Sc.apart q l (s.step r) (t.step r) (by rw [Sc.step_len, Sc.step_len, hl]) hn
      rw [filR_yes hq]
      have e3 : t.ran ([r] ++ filR q l) = t.ents r ++ (t.step r).ran (filR q l) := rfl
      have e4 : t.run ([r] ++ filR q l) = (t.step r).run (filR q l) := rfl
      rw [e3, e4, List.map_append, List.map_append, ih.1]
      refine ⟨?_, ih.2⟩
      congr 1
      cases hs : s.is r
      · rw [Sc.ents_no hs, Sc.ents_no (his ▸ hs)]; rfl
      · rw [Sc.ents_yes hs, Sc.ents_yes (his ▸ hs), filE_yes hq]; rfl
    · have hn : (atL (s.step r).2 q).1 = (atL t.2 q).1 := by
        rw [← h]
        cases hs : s.is r
        · rw [Sc.step_no hs]
        · rw [Sc.step_yes hs, Sc.done_at hs, if_neg (fun e => hq e.symm)]
      have ih := Sc.apart q l (s.step r) t (by rw [Sc.step_len, hl]) hn
      rw [filR_no hq, List.nil_append, List.map_append, ih.1]
      refine ⟨?_, ih.2⟩
      have : filE q (s.ents r) = [] := by
        cases hs : s.is r
        · rw [Sc.ents_no hs]; rfl
        · rw [Sc.ents_yes hs]; exact filE_no hq
      rw [this]
      rfl
theorem filE_take {q : Nat} {a : List En} {k : Nat} (hk : k < a.length) : filE q (a.take (k + 1)) = filE q (a.take k) ++ filE q [a[k]] := by rw [list_more hk, filE_app]
theorem filE_at {q : Nat} {a : List En} {k : Nat} (hk : k < a.length) (h : a[k].r.cl = (q : Int)) : (filE q a)[(filE q (a.take k)).length]? = some a[k] := by
  have e : a = a.take k ++ ([a[k]] ++ a.drop (k + 1)) := by rw [List.singleton_append, List.getElem_cons_drop, List.take_append_drop]
  have e2 : filE q a = filE q (a.take k) ++ (a[k] :: filE q (a.drop (k + 1))) := by
    conv => lhs; rw [e]
    rw [filE_app, filE_app, filE_yes h]
    rfl
  rw [e2, List.getElem?_append_right (Nat.le_refl _), Nat.sub_self]
  rfl
/-- Both ledgers, and the row of batches. -/
structure RAp (w : World) (A1 : Option Addr) (L : List Bt) (lx ly q k : Nat) (bx by_ : Lb) (wr : World) : Prop where
  x : Lx w bx ((Sc.new 3).run (allS (L.take k))) ((Sc.new 3).ran (allS (L.take k))) wr
  y : Lx w by_ ((Sc.new 3).run (filR q (allS (L.take k)))) ((Sc.new 3).ran (filR q (allS (L.take k)))) wr
  far : ∀ j, bx.zone j → ¬ by_.zone j
  ex : bx.lb = lx
  ey : by_.lb = ly
  nx : bx.N ≤ (allS (L.take k)).length
  ny : by_.N ≤ (allS (L.take k)).length
  has : Has wr wr.heap.size A1 (L.flatMap Bt.cells)
  off : ∀ ad, A1 = some ad → ¬ bx.zone ad.block ∧ ¬ by_.zone ad.block ∧ ad.block < wr.heap.size
theorem RAp.below {w wr w2 : World} {A1 : Option Addr} {L : List Bt} {lx ly q k : Nat} {bx by_ : Lb} (h : RAp w A1 L lx ly q k bx by_ wr) (hb : Below wr.heap.size wr w2) : RAp w A1 L lx ly q k bx by_ w2 :=
  ⟨h.x.below hb, h.y.below hb, h.far, h.ex, h.ey, h.nx, h.ny, (h.has.below hb (Nat.le_refl _)).tight, fun ad e => ⟨(h.off ad e).1, (h.off ad e).2.1, Nat.lt_of_lt_of_le (h.off ad e).2.2 hb.size⟩⟩
/-- While one client's requests are put into a row. -/
structure ROwn (w1 : World) (q : Nat) (l : List Rq) (k : Nat) (n : Nat) (v : Value) (wr : World) : Prop where
  row : wr.ownsRow w1.heap.size 34 6 v n (reqCells (filR q (l.take k)))
  low : Below w1.heap.size w1 wr
  len : (filR q (l.take k)).length = n
theorem RAp.next {w wr w2 w3 : World} {A1 : Option Addr} {L : List Bt} {lx ly q k : Nat} {bx by_ bx' by' : Lb} {v v' : Value} (h : RAp w A1 L lx ly q k bx by_ wr) (hk : k < L.length)
    (hx : Ran w bx ((Sc.new 3).run (allS (L.take k))) ((Sc.new 3).ran (allS (L.take k))) L[k].l wr v bx' w2)
    (hy : Ran w by_ ((Sc.new 3).run (filR q (allS (L.take k)))) ((Sc.new 3).ran (filR q (allS (L.take k)))) (filR q L[k].l) w2 v' by' w3) : RAp w A1 L lx ly q (k + 1) bx' by' w3 := by
  have hs := hx.tn.size
  have hs3 := hy.tn.size
  have hbx : ∀ j, bx'.zone j → ¬ by_.zone j := fun j hj hb => by
    rcases hx.zone j hj with e | e
    · exact h.far j e hb
    · have := h.y.lg.lt hb; omega
  have hbx2 : ∀ j, bx'.zone j → j < w2.heap.size := fun j hj => hx.lx.lg.lt hj
  refine ⟨?_, ?_, fun j hj hb => ?_, hx.same.trans h.ex, hy.same.trans h.ey, ?_, ?_, ?_, fun ad e => ⟨fun hz => ?_, fun hz => ?_, ?_⟩⟩
  · rw [allS_take hk, Sc.run_app, Sc.ran_app]
    exact hx.lx.kept hy.tn hbx h.y.up
  · rw [allS_take hk, filR_app, Sc.run_app, Sc.ran_app]
    exact hy.lx
  · rcases hy.zone j hb with e | e
    · exact hbx j hj e
    · have := hbx2 j hj; omega
  · have h1 := Sc.ran_len L[k].l ((Sc.new 3).run (allS (L.take k)))
    have h2 := h.nx
    rw [hx.n, allS_take hk, List.length_append]
    omega
  · have h1 := Sc.ran_len (filR q L[k].l) ((Sc.new 3).run (filR q (allS (L.take k))))
    have h2 := h.ny
    have h3 := filR_len q L[k].l
    rw [hy.n, allS_take hk, List.length_append]
    omega
  · exact (has_apart (has_apart h.has hx.tn (fun ad e _ => (h.off ad e).1)) hy.tn (fun ad e _ => (h.off ad e).2.1)).tight
  · rcases hx.zone _ hz with e2 | e2
    · exact (h.off ad e).1 e2
    · have := (h.off ad e).2.2; omega
  · rcases hy.zone _ hz with e2 | e2
    · exact (h.off ad e).2.1 e2
    · have := (h.off ad e).2.2; omega
  · have := (h.off ad e).2.2
    omega
set_option maxRecDepth 100000 in
set_option maxHeartbeats 8000000 in
theorem ledgerApart_walk (A : Option Addr) (c : Nat) (l : List Bt) (a : Int) (w : World) (w1 : IsBats w A l c) (w0 : (Lit.int .i64 a).wf = true) :
    Calls Try.prog 11 #[.slice A l.length c, .int .i64 a] w fun e w' => e = .returned (.bool true) ∧ Below w.heap.size w w' := by
  have HW := Lib.hid (fun w => within_any a 3 (by omega) (by omega) (wf_i64 w0).1 (wf_i64 w0).2 w)
  have hq : 0 ≤ a % 3 ∧ a % 3 < 3 := ⟨Int.emod_nonneg _ (by omega), Int.emod_lt_of_pos _ (by omega)⟩
  obtain ⟨q, hqq⟩ := Int.eq_ofNat_of_zero_le hq.1
  rw [hqq] at HW hq
  have HQ := Lib.hid (show q < 3 by omega)
  have HC := Lib.hid (cut_any w1)
  have HBs := Lib.hid w1.cut
  have hNl := allS_cut_len l
  have hLl : (cutS l).length ≤ 20 := by unfold cutS; rw [List.length_map, List.length_take]; omega
  obtain ⟨L, hL⟩ : ∃ L, cutS l = L := ⟨_, rfl⟩
  rw [hL] at HC HBs hNl hLl
  obtain ⟨m, hm⟩ : ∃ m, L.length = m := ⟨_, rfl⟩
  rw [hm] at HC hLl
  have HM := Lib.hid hm
  have HNl := Lib.hid hNl
  clear w0 w1 hL hm hNl hq hqq
  go_enter Try.func11, Try.ntmps11
  go_wp2_with fail
  refine (HW.out _).mono ?_
  rintro e wv ⟨rfl, rfl⟩
  go_wp2_with fail
  refine (lx_new (n := 3) (by omega) (by omega) w w (Below.refl _ _)).mono ?_
  rintro e w1 ⟨bx, rfl, hx, hxN, -, -⟩
  have HX1 := Lib.hid hx
  have HXN := Lib.hid hxN
  clear hx hxN
  go_wp2_with fail
  refine (lx_new (n := 3) (by omega) (by omega) w w1 HX1.out.low).mono ?_
  rintro e w2 ⟨by_, rfl, hy, hyN, hyz, hb2⟩
  have HY2 := Lib.hid hy
  have HYN := Lib.hid hyN
  have HX2 := Lib.hid (HX1.out.below hb2)
  have HFar := Lib.hid (show ∀ j, bx.zone j → ¬ by_.zone j from fun j hj hb => by have := hyz j hb; have := HX1.out.lg.lt hj; omega)
  have HC2 := Lib.hid (HC.out w2 hy.low)
  clear hy hyN hyz hb2 HC
  go_wp2_with fail
  refine HC2.out.mono ?_
  rintro e w3 ⟨v, rfl, ho, hb⟩
  obtain ⟨A1, c1, rfl, -, -⟩ := own_slice ho
  obtain ⟨lx, hlx⟩ : ∃ x, bx.lb = x := ⟨_, rfl⟩
  obtain ⟨ly, hly⟩ : ∃ x, by_.lb = x := ⟨_, rfl⟩
  have HS0 := Lib.hid (show RAp w A1 L lx ly q 0 bx by_ w3 from ⟨HX2.out.below hb, HY2.out.below hb, HFar.out, hlx, hly, by rw [HXN.out]; exact Nat.zero_le _, by rw [HYN.out]; exact Nat.zero_le _, has_rows ho,
    fun ad e => ⟨fun hz => by have := own_at ho ad e; have := HX2.out.lg.lt hz; omega, fun hz => by have := own_at ho ad e; have := HY2.out.lg.lt hz; omega, (own_at ho ad e).2⟩⟩)
  rw [hlx, hly]
  clear ho hb HC2 HX1 HX2 HY2 HFar hlx hly
  go_wp2_with fail
  go_loopw [44] (fun x wr => ∃ (k : Nat) (bx by_ : Lb), x = .int .i64 k ∧ k ≤ m ∧ Hid (RAp w A1 L lx ly q k bx by_ wr)) (fun x _ => m - (intOf x).toNat)
  case atStart => exact ⟨0, bx, by_, rfl, Nat.zero_le _, HS0⟩
  case round =>
    obtain ⟨k, bx, by_, rfl, hk, HS⟩ := hrel
    by_cases hlt : k < m
    · have hkl : k < L.length := by rw [HM.out]; exact hlt
      obtain ⟨wo, hwo⟩ : ∃ wo, wo = wr := ⟨_, rfl⟩
      subst hwo
      obtain ⟨ad, rfl, _, c9⟩ := HS.out.has.bat hkl
      obtain ⟨⟨xA, xc, xl⟩, hx⟩ : ∃ x, L[k] = x := ⟨_, rfl⟩
      have hxm : (⟨xA, xc, xl⟩ : Bt) ∈ L := hx ▸ List.getElem_mem hkl
      rw [hx] at c9
      have hAx : Has wo w.heap.size xA (reqCells xl) := (HBs.out.has _ hxm).below HS.out.x.low (Nat.le_refl _)
      have c0 : wo.cell? (ad.add k) = some (.slice xA xl.length xc) := c9
      clear c9
      obtain ⟨p, hp⟩ : ∃ p, xl.length = p := ⟨_, rfl⟩
      rw [hp] at c0
      have hle : (allS (L.take k)).length + p ≤ 160 := by
        have := allS_le (l := L) (k + 1)
        rw [allS_take hkl, List.length_append, hx] at this
        rw [← hp]
        exact Nat.le_trans this HNl.out
      have HX := Lib.hid hx
      have HAx := Lib.hid hAx
      have HP := Lib.hid hp
      have HLe := Lib.hid hle
      have HSz := Lib.hid HS.out.x.low.size
      have HO0 := Lib.hid (show ROwn wo q xl 0 0 (.slice none 0 0) wo from ⟨World.ownsRow_nil _ _ _ _, Below.refl _ _, rfl⟩)
      have hpm : p ≤ 160 := by omega
      clear hx hAx hxm hp
      go_wp2_with fail
      go_loopw [10, 52] (fun v y wq => ∃ (i n : Nat), y = .int .i64 i ∧ i ≤ p ∧ n ≤ i ∧ Hid (ROwn wo q xl i n v wq)) (fun _ y _ => p - (intOf y).toNat)
      case atStart => exact ⟨0, 0, rfl, Nat.zero_le _, Nat.zero_le _, HO0⟩
      case round =>
        obtain ⟨i, n, rfl, hi, hni, HO⟩ := hrel
        obtain ⟨A5, c5, rfl, -, -⟩ := own_slice HO.out.row
        obtain ⟨ad', e, _, c9⟩ := ((HS.out.has).below HO.out.low (Nat.le_refl _)).bat hkl
        cases e
        rw [HX.out] at c9
        have c1' : wr.cell? (ad.add k) = some (.slice xA xl.length xc) := c9
        clear c9
        rw [HP.out] at c1'
        by_cases hip : i < p
        · have hil : i < xl.length := by rw [HP.out]; exact hip
          obtain ⟨ad2, rfl, _, d0, d1, d2, d3, d4, d5⟩ := (HAx.out.below HO.out.low HSz.out).req hil
          obtain ⟨r, hr⟩ : ∃ r, xl[i] = r := ⟨_, rfl⟩
          rw [hr] at d0 d1 d2 d3 d4 d5
          by_cases hrq : r.cl = (q : Int)
          · have hb6 : Below wr.heap.size wr (wr.alloc (.cells #[.int .i64 r.cl, .int .i64 r.tm, .int .i64 r.kd, .int .i64 r.ky, .int .i64 r.vl, .int .i64 r.sg] 34)) := (Below.refl _ _).alloc (Nat.le_refl _) _
            have HOw := Lib.hid (below_own HO.out.row hb6 (Nat.le_refl _))
            have HNw := Lib.hid (show Has (wr.alloc (.cells #[.int .i64 r.cl, .int .i64 r.tm, .int .i64 r.kd, .int .i64 r.ky, .int .i64 r.vl, .int .i64 r.sg] 34)) (wr.heap.size + 1) (some ⟨wr.heap.size, 0, none⟩) (reqCells [r]) from Has.fresh wr _ _)
            have HB6 := Lib.hid hb6
            have HOne := Lib.hid (reqCells_one [r])
            have HM1 := Lib.hid (show n + 1 ≤ maxLen by unfold maxLen; omega)
            have HM2 := Lib.hid (show (n + 1) * 48 ≤ 140737488355328 by omega)
            have HM3 := Lib.hid (show wo.heap.size ≤ (wr.alloc (.cells #[.int .i64 r.cl, .int .i64 r.tm, .int .i64 r.kd, .int .i64 r.ky, .int .i64 r.vl, .int .i64 r.sg] 34)).heap.size from Nat.le_trans HO.out.low.size hb6.size)
            have HRr := Lib.hid hr
            have HRq := Lib.hid hrq
            have g1 : (r.cl == (q : Int)) = true := by simp [hrq]
            clear hr hb6 hrq
            obtain ⟨i0, hi0, hx0, hx1, hx2⟩ := info_parts info_req
            go_wp2_with (at_builtin; refine wpList_apps rfl _ _ 42 rfl wo.heap.size 34 i0 _ 6 48 Try.underlying42 hi0 hx0 hx1 hx2 rfl (by decide) _ _ _ rfl HOw.out _ (some ⟨wr.heap.size, 0, none⟩) 1 1 (reqCells [r]) rfl rfl HNw.out (fun h => nomatch h) HOne.out HM1.out HM2.out HM3.out ?_)
            intro v2 w11 ho11 hg11 hl11
            have hfl : filR q (xl.take (i + 1)) = filR q (xl.take i) ++ [r] := by rw [list_more hil, filR_app, HRr.out, filR_yes HRq.out]
            have HS11 := Lib.hid (show ROwn wo q xl (i + 1) (n + 1) v2 w11 from ⟨by rw [hfl, reqCells_app]; exact ho11, ((HO.out.low.trans (HB6.out.mono HO.out.low.size)).grown hg11 HM3.out (fun j hj => (HO.out.row.lt j hj).1)), by rw [hfl, List.length_append, HO.out.len]; rfl⟩)
            clear ho11 hg11 hl11 hfl
            go_wp2_with fail
            go_roundw
            case rel => exact ⟨i + 1, n + 1, by go_num, by omega, by omega, HS11⟩
            case measure => simp [intOf]; omega
          · have g1 : (r.cl == (q : Int)) = false := by simp [hrq]
            have hfl : filR q (xl.take (i + 1)) = filR q (xl.take i) := by rw [list_more hil, filR_app, hr, filR_no hrq, List.append_nil]
            have HS11 := Lib.hid (show ROwn wo q xl (i + 1) n (.slice A5 n c5) wr from ⟨by rw [hfl]; exact HO.out.row, HO.out.low, by rw [hfl]; exact HO.out.len⟩)
            clear hr hrq hfl
            go_wp2_with fail
            go_roundw
            case rel => exact ⟨i + 1, n, by go_num, by omega, by omega, HS11⟩
            case measure => simp [intOf]; omega
        · obtain rfl : i = p := by omega
          have het : xl.take i = xl := List.take_of_length_le (by rw [HP.out]; exact Nat.le_refl _)
          have hrow := HO.out.row
          have hlen := HO.out.len
          rw [het] at hrow hlen
          have HSb := Lib.hid (HS.out.below HO.out.low)
          have hAx : Has wr w.heap.size xA (reqCells xl) := HAx.out.below HO.out.low HSz.out
          have KX := Lib.hid (lx_run HSb.out.x (c := xc) hAx (hAx.off HSb.out.x.up) HP.out (by have h1 := HSb.out.nx; omega))
          rw [HSb.out.ex] at KX
          have HRow := Lib.hid hrow
          have HLen := Lib.hid hlen
          have HWz := Lib.hid (fun j (hj : bx.zone j) => HS.out.x.lg.lt hj)
          have HWz2 := Lib.hid (fun j (hj : by_.zone j) => HS.out.y.lg.lt hj)
          clear hrow hlen het hAx
          go_wp2_with fail
          refine KX.out.mono ?_
          rintro e w6 ⟨v6, bx', rfl, hRx⟩
          have hown := has_apart (has_rows HRow.out) hRx.tn (fun ad e _ hz => by have h1 := own_at HRow.out ad e; have h2 := HWz.out _ hz; omega)
          have hy6 := HSb.out.y.kept hRx.tn (fun j hj hx => HSb.out.far j hx hj) HSb.out.x.up
          have KY := Lib.hid (lx_run hy6 (c := c5) hown.tight (fun ad e _ hz => by have h1 := own_at HRow.out ad e; have h2 := HWz2.out _ hz; omega) HLen.out (by have h1 := HSb.out.ny; omega))
          rw [HSb.out.ey] at KY
          have HRx := Lib.hid hRx
          clear hRx hown hy6 KX
          go_wp2_with fail
          refine KY.out.mono ?_
          rintro e w7 ⟨v7, by', rfl, hRy⟩
          have HS7 := Lib.hid (HSb.out.next hkl (v := v6) (v' := v7) (by rw [HX.out]; exact HRx.out) (by rw [HX.out]; exact hRy))
          clear hRy KY HRx
          go_wp2_with fail
          go_roundw
          case rel => exact ⟨k + 1, bx', by', by go_num, by omega, HS7⟩
          case measure => simp [intOf]; omega
    · have he : L.take k = L := List.take_of_length_le (by rw [HM.out]; omega)
      have hx := HS.out.x
      have hy := HS.out.y
      have hnx := HS.out.nx
      have hny := HS.out.ny
      have hex := HS.out.ex
      have hey := HS.out.ey
      rw [he] at hx hy hnx hny
      obtain ⟨hm1, hm2⟩ := Sc.apart q (allS L) (Sc.new 3) (Sc.new 3) rfl rfl
      have hEl : ((Sc.new 3).ran (allS L)).length ≤ 160 := Nat.le_trans (Sc.ran_len _ _) HNl.out
      have hFl : ((Sc.new 3).ran (filR q (allS L))).length ≤ 160 := Nat.le_trans (Sc.ran_len _ _) (Nat.le_trans (filR_len q (allS L)) HNl.out)
      obtain ⟨S, hS⟩ : ∃ S, (Sc.new 3).run (allS L) = S := ⟨_, rfl⟩
      obtain ⟨E, hE⟩ : ∃ E, (Sc.new 3).ran (allS L) = E := ⟨_, rfl⟩
      obtain ⟨T, hT⟩ : ∃ S, (Sc.new 3).run (filR q (allS L)) = S := ⟨_, rfl⟩
      obtain ⟨F, hF⟩ : ∃ E, (Sc.new 3).ran (filR q (allS L)) = E := ⟨_, rfl⟩
      rw [hS, hE] at hx
      rw [hT, hF] at hy
      rw [hE, hF] at hm1
      rw [hS, hT] at hm2
      rw [hE] at hEl
      rw [hF] at hFl
      have hN := HNl.out
      have KA := Lib.hid (lall_any hx.lg (by omega))
      obtain ⟨ea, hea⟩ : ∃ e, E.length = e := ⟨_, rfl⟩
      obtain ⟨fb, hfb⟩ : ∃ e, F.length = e := ⟨_, rfl⟩
      rw [hea] at hEl
      rw [hfb] at hFl
      rw [hea, hex] at KA
      have HX := Lib.hid hx
      have HY := Lib.hid hy
      have HM1 := Lib.hid hm1
      have HM2 := Lib.hid hm2
      have HEa := Lib.hid hea
      have HFb := Lib.hid hfb
      have HNy := Lib.hid (show by_.N ≤ 1000000 by omega)
      have HEx := Lib.hid hex
      have HEy := Lib.hid hey
      clear hx hy hnx hny hex hey hm1 hm2 hS hE hT hF hN hea hfb HS HS0 he
      go_wp2_with fail
      refine KA.out.mono ?_
      rintro e w8 ⟨v, rfl, ho8, hb8⟩
      obtain ⟨A8, c8, rfl, -, -⟩ := own_slice ho8
      have HX8 := Lib.hid (HX.out.below hb8)
      have HY8 := Lib.hid (HY.out.below hb8)
      have HE8 := Lib.hid (has_rows ho8)
      have KB := Lib.hid (lall_any HY8.out.lg HNy.out)
      rw [HFb.out, HEy.out] at KB
      clear ho8 hb8 KA HX HY
      go_wp2_with fail
      refine KB.out.mono ?_
      rintro e w9 ⟨v, rfl, ho9, hb9⟩
      obtain ⟨A9, c9, rfl, -, -⟩ := own_slice ho9
      have HX9 := Lib.hid (HX8.out.below hb9)
      have HY9 := Lib.hid (HY8.out.below hb9)
      have HE9 := Lib.hid (HE8.out.below hb9 (Nat.le_refl _))
      have HF9 := Lib.hid (has_rows ho9)
      have KLx := Lib.hid (fun j => llast_any (HX9.out.drewN j).lg (q : Int))
      have KLy := Lib.hid (fun j => llast_any (HY9.out.drewN j).lg (q : Int))
      rw [HEx.out, HM2.out] at KLx
      rw [HEy.out] at KLy
      obtain ⟨t, ht⟩ : ∃ t, (atL T.2 (q : Int)).1 = t := ⟨_, rfl⟩
      rw [ht] at KLx KLy
      have hflen : (filE q E).length = fb := by
        have := congrArg List.length HM1.out
        rw [List.length_map, List.length_map, HFb.out] at this
        exact this
      have HFl := Lib.hid hflen
      clear ho9 hb9 KB HX8 HY8 HE8 ht hflen
      go_wp2_with fail
      go_loopw [14, 92] (fun y x wr => ∃ (i j n : Nat), x = .int .i64 i ∧ y = .int .i64 n ∧ i ≤ ea ∧ n ≤ i ∧ (filE q (E.take i)).length = n ∧ wr = w9.drewN j) (fun _ x _ => ea - (intOf x).toNat)
      case atStart => exact ⟨0, 0, 0, rfl, rfl, Nat.zero_le _, Nat.zero_le _, rfl, rfl⟩
      case round =>
        obtain ⟨i, j, n, rfl, rfl, hi, hni, hn, rfl⟩ := hrel
        by_cases hlt : i < ea
        · have hil : i < E.length := by rw [HEa.out]; exact hlt
          obtain ⟨ad, rfl, _, c0, c1', c2, c3, c4, c5, c6⟩ := HE9.out.ent hil
          obtain ⟨x, hx⟩ : ∃ x, E[i] = x := ⟨_, rfl⟩
          rw [hx] at c0 c1' c2 c3 c4 c5
          by_cases hq : x.r.cl = (q : Int)
          · have hat := filE_at hil (by rw [hx]; exact hq)
            rw [hn, hx] at hat
            have hnl : n < fb := by have := (List.getElem?_eq_some_iff.1 hat).1; rw [HFl.out] at this; exact this
            have hnF : n < F.length := by rw [HFb.out]; exact hnl
            have hreq : F[n].r = x.r := by
              have := congrArg (fun l => l[n]?) HM1.out
              simp only [List.getElem?_map, hat, List.getElem?_eq_getElem hnF, Option.map_some, Option.some.injEq] at this
              exact this.symm
            obtain ⟨ad2, rfl, _, d0, d1, d2, d3, d4, d5, -⟩ := HF9.out.ent hnF
            rw [hreq] at d0 d1 d2 d3 d4 d5
            have hfl : (filE q (E.take (i + 1))).length = n + 1 := by rw [filE_take hil, hx, filE_yes hq, List.length_append, hn]; rfl
            obtain ⟨r, hr⟩ : ∃ r, x.r = r := ⟨_, rfl⟩
            rw [hr] at c0 c1' c2 c3 c4 c5 d0 d1 d2 d3 d4 d5 hq
            have G := fun (w : World) => guard_req .neq (.tmp 112) (.tmp 117) #[.int .i64 r.cl, .int .i64 r.tm, .int .i64 r.kd, .int .i64 r.ky, .int .i64 r.vl, .int .i64 r.sg] #[.int .i64 r.cl, .int .i64 r.tm, .int .i64 r.kd, .int .i64 r.ky, .int .i64 r.vl, .int .i64 r.sg] w
            have E1 := fun (w : World) => neq_req (x := r) (y := r) (r := false) (by simp) w
            have g1 : (r.cl != (q : Int)) = false := by simp [hq]
            have g2 : decide ((n : Int) ≥ (fb : Int)) = false := decide_eq_false (by omega)
            clear hat hnF hreq hx hr c6 hq
            go_wp2_with fail
            have g3 : decide (fb ≤ n) = false := decide_eq_false (by omega)
            go_big_quiet (fail)
            clear E1 G g1 g2 g3
            go_wp2_with fail
            go_roundw
            case rel => exact ⟨i + 1, _, n + 1, by go_num, by go_num, by omega, by omega, hfl, by first | rfl | exact World.drewN_drewN _ _ _⟩
            case measure => simp [intOf]; omega
          · have hfl : (filE q (E.take (i + 1))).length = n := by rw [filE_take hil, hx, filE_no hq, List.append_nil, hn]
            have g1 : (x.r.cl != (q : Int)) = true := by simp [hq]
            clear hx c6 hq
            go_wp2_with fail
            go_roundw
            case rel => exact ⟨i + 1, j, n, by go_num, rfl, by omega, by omega, hfl, rfl⟩
            case measure => simp [intOf]; omega
        · obtain rfl : i = ea := by omega
          have het : E.take i = E := List.take_of_length_le (by rw [HEa.out]; exact Nat.le_refl _)
          rw [het, HFl.out] at hn
          subst hn
          have g1 : ((fb : Int) == (fb : Int)) = true := by simp
          have g2 : (t == t) = true := by simp
          clear het
          go_wp2_with fail
          refine (KLx.out j).mono ?_
          rintro e wv ⟨rfl, rfl⟩
          go_wp2_with fail
          refine (KLy.out j).mono ?_
          rintro e wv ⟨rfl, rfl⟩
          go_wp2_with fail
          refine (wakes12_any _).mono ?_
          rintro e w15 ⟨rfl, hb15⟩
          go_wp2_with fail
          go_ret
          exact ⟨rfl, (below_drewN HX9.out.low j).trans (hb15.mono HX9.out.low.size)⟩
end Go.Proofs.Ytpjcedilkahpiaa
