/- The walk of ReqsParts: it returns true for any requests and any int. (Asks for reqs' contracts as ReqLaws.) -/
import Derived.Test.YtdopgdaobpcbjaaSealed5Walk
import Derived.Test.YtdopgdaobpcbjaaAlone5Walk
import Derived.Test.YtdopgdaobpcbjaaOrders5Walk
namespace Go.Proofs.Ytdopgdaobpcbjaa
open Go.RowKit

theorem rightS_is {l : List Rq} {m n : Int} {L : List Deed} : rightS l m n L = true ↔ (l.length : Int) ≤ m ∧ Ris l ∧ ∀ r ∈ l, sealedS r n L = true := by
  unfold rightS
  rw [Bool.and_eq_true, Bool.and_eq_true, decide_eq_true_eq, risesR_ris, List.all_eq_true]
  exact ⟨fun ⟨⟨a, b⟩, c⟩ => ⟨a, b, c⟩, fun ⟨a, b, c⟩ => ⟨⟨a, b⟩, c⟩⟩
theorem right_nil (m n : Int) (hm : 0 ≤ m) (L : List Deed) : rightS [] m n L = true := rightS_is.2 ⟨by simpa using hm, List.Pairwise.nil, by simp⟩
theorem right_take {l : List Rq} {m n : Int} {L : List Deed} (h : rightS l m n L = true) (i : Nat) : rightS (l.take i) m n L = true := by
  obtain ⟨a, b, c⟩ := rightS_is.1 h
  refine rightS_is.2 ⟨by rw [List.length_take]; omega, List.Pairwise.sublist (List.take_sublist i l) b, fun r hr => c r (List.mem_of_mem_take hr)⟩
theorem right_short {l : List Rq} {m n : Int} {L : List Deed} (hm : m < l.length) : rightS l m n L = false := by
  rw [Bool.eq_false_iff]
  intro h
  have := (rightS_is.1 h).1
  omega
theorem right_twice {l : List Rq} {m n : Int} {L : List Deed} {i : Nat} (hi : i < l.length) : rightS (l.take (i + 1) ++ l.drop i) m n L = false := by
  rw [Bool.eq_false_iff]
  intro h
  have h2 := (rightS_is.1 h).2.1
  obtain ⟨_, _, h3⟩ := List.pairwise_append.1 h2
  have h4 := h3 l[i] (List.mem_of_getElem? (i := i) (by rw [List.getElem?_take, if_pos (by omega), List.getElem?_eq_getElem hi])) l[i] (List.mem_of_getElem? (i := 0) (by rw [List.getElem?_drop, Nat.add_zero, List.getElem?_eq_getElem hi]))
  rw [cmpR_self] at h4
  omega
/-- Two changed about. -/
def swapR (l : List Rq) (j : Nat) : List Rq := match l[j]?, l[j + 1]? with
  | some a, some b => (l.set (j + 1) a).set j b
  | _, _ => l
theorem right_swap {l : List Rq} {m n : Int} {L : List Deed} {j : Nat} (hj : j + 1 < l.length) (h : rightS l m n L = true) : rightS (swapR l j) m n L = false := by
  have h1 := (rightS_is.1 h).2.1
  have e1 : l[j]? = some l[j] := List.getElem?_eq_getElem (by omega)
  have e2 : l[j + 1]? = some l[j + 1] := List.getElem?_eq_getElem hj
  have hlt := ris_at h1 e1 e2
  rw [Bool.eq_false_iff]
  intro h
  have h2 := (rightS_is.1 h).2.1
  have es : swapR l j = (l.set (j + 1) l[j]).set j l[j + 1] := by unfold swapR; rw [e1, e2]
  rw [es] at h2
  have f1 : ((l.set (j + 1) l[j]).set j l[j + 1])[j]? = some l[j + 1] := List.getElem?_set_self (by simp; omega)
  have f2 : ((l.set (j + 1) l[j]).set j l[j + 1])[j + 1]? = some l[j] := by
    rw [List.getElem?_set_ne (by omega), List.getElem?_set_self (by omega)]
  have := ris_at h2 f1 f2
  rw [cmpR_anti] at this
  omega
theorem swap_done {w3 w4 w5 : World} {B B3 gy n c j : Nat} {ls : List Rq} {a b : Rq} (h : w4.ownsRow B 34 6 (.slice (some ⟨gy, 0, none⟩) n c) n (reqCells ls)) (hb : Below B3 w3 w4) (hg : B3 ≤ gy) (h1 : ls[j]? = some a) (h2 : ls[j + 1]? = some b)
    (hw : w5 = ((((((((((((w4.setCell ⟨gy, (j + 1) * 6, none⟩ (.int .i64 a.cl)).setCell ⟨gy, (j + 1) * 6 + 1, none⟩ (.int .i64 a.tm)).setCell ⟨gy, (j + 1) * 6 + 2, none⟩ (.int .i64 a.kd)).setCell ⟨gy, (j + 1) * 6 + 3, none⟩ (.int .i64 a.ky)).setCell ⟨gy, (j + 1) * 6 + 4, none⟩ (.int .i64 a.vl)).setCell ⟨gy, (j + 1) * 6 + 5, none⟩ (.int .i64 a.sg)).setCell ⟨gy, j * 6, none⟩ (.int .i64 b.cl)).setCell ⟨gy, j * 6 + 1, none⟩ (.int .i64 b.tm)).setCell ⟨gy, j * 6 + 2, none⟩ (.int .i64 b.kd)).setCell ⟨gy, j * 6 + 3, none⟩ (.int .i64 b.ky)).setCell ⟨gy, j * 6 + 4, none⟩ (.int .i64 b.vl)).setCell ⟨gy, j * 6 + 5, none⟩ (.int .i64 b.sg)).drew) :
    w5.ownsRow B 34 6 (.slice (some ⟨gy, 0, none⟩) n c) n (reqCells (swapR ls j)) ∧ Below B3 w3 w5 := by
  have k := ((((((((((((h.stored ((j + 1) * 6) (.int .i64 a.cl)).1.stored ((j + 1) * 6 + 1) (.int .i64 a.tm)).1.stored ((j + 1) * 6 + 2) (.int .i64 a.kd)).1.stored ((j + 1) * 6 + 3) (.int .i64 a.ky)).1.stored ((j + 1) * 6 + 4) (.int .i64 a.vl)).1.stored ((j + 1) * 6 + 5) (.int .i64 a.sg)).1.stored (j * 6) (.int .i64 b.cl)).1.stored (j * 6 + 1) (.int .i64 b.tm)).1.stored (j * 6 + 2) (.int .i64 b.kd)).1.stored (j * 6 + 3) (.int .i64 b.ky)).1.stored (j * 6 + 4) (.int .i64 b.vl)).1.stored (j * 6 + 5) (.int .i64 b.sg)).1
  rw [reqCells_set, reqCells_set] at k
  have q := ((((((((((((hb.setCell (p := ⟨gy, (j + 1) * 6, none⟩) hg (.int .i64 a.cl)).setCell (p := ⟨gy, (j + 1) * 6 + 1, none⟩) hg (.int .i64 a.tm)).setCell (p := ⟨gy, (j + 1) * 6 + 2, none⟩) hg (.int .i64 a.kd)).setCell (p := ⟨gy, (j + 1) * 6 + 3, none⟩) hg (.int .i64 a.ky)).setCell (p := ⟨gy, (j + 1) * 6 + 4, none⟩) hg (.int .i64 a.vl)).setCell (p := ⟨gy, (j + 1) * 6 + 5, none⟩) hg (.int .i64 a.sg)).setCell (p := ⟨gy, j * 6, none⟩) hg (.int .i64 b.cl)).setCell (p := ⟨gy, j * 6 + 1, none⟩) hg (.int .i64 b.tm)).setCell (p := ⟨gy, j * 6 + 2, none⟩) hg (.int .i64 b.kd)).setCell (p := ⟨gy, j * 6 + 3, none⟩) hg (.int .i64 b.ky)).setCell (p := ⟨gy, j * 6 + 4, none⟩) hg (.int .i64 b.vl)).setCell (p := ⟨gy, j * 6 + 5, none⟩) hg (.int .i64 b.sg))
  have es : swapR ls j = (ls.set (j + 1) a).set j b := by unfold swapR; rw [h1, h2]
  rw [hw, es]
  generalize ((((((((((((w4.setCell ⟨gy, (j + 1) * 6, none⟩ (.int .i64 a.cl)).setCell ⟨gy, (j + 1) * 6 + 1, none⟩ (.int .i64 a.tm)).setCell ⟨gy, (j + 1) * 6 + 2, none⟩ (.int .i64 a.kd)).setCell ⟨gy, (j + 1) * 6 + 3, none⟩ (.int .i64 a.ky)).setCell ⟨gy, (j + 1) * 6 + 4, none⟩ (.int .i64 a.vl)).setCell ⟨gy, (j + 1) * 6 + 5, none⟩ (.int .i64 a.sg)).setCell ⟨gy, j * 6, none⟩ (.int .i64 b.cl)).setCell ⟨gy, j * 6 + 1, none⟩ (.int .i64 b.tm)).setCell ⟨gy, j * 6 + 2, none⟩ (.int .i64 b.kd)).setCell ⟨gy, j * 6 + 3, none⟩ (.int .i64 b.ky)).setCell ⟨gy, j * 6 + 4, none⟩ (.int .i64 b.vl)).setCell ⟨gy, j * 6 + 5, none⟩ (.int .i64 b.sg)) = wx at k q
  exact ⟨k, q.os, q.tape, q.output, q.size, q.block⟩
theorem swap_len (ls : List Rq) (j : Nat) : (swapR ls j).length = ls.length := by unfold swapR; split <;> simp
theorem swap_mem {ls : List Rq} {j : Nat} {r : Rq} (h : r ∈ swapR ls j) : r ∈ ls := by
  unfold swapR at h
  split at h
  · rename_i a b h1 h2
    rcases List.mem_or_eq_of_mem_set h with h | h
    · rcases List.mem_or_eq_of_mem_set h with h | h
      · exact h
      · exact h ▸ List.mem_of_getElem? h1
    · exact h ▸ List.mem_of_getElem? h2
  · exact h
theorem has_cut {w : World} {B : Nat} {A : Option Addr} {l : List Rq} (h : Has w B A (reqCells l)) (k : Nat) : Has w B A (reqCells (l.take k)) := has_head h k
def sliceLen : Value → Nat
  | .slice _ n _ => n
  | _ => 0
set_option maxHeartbeats 4000000 in
set_option maxRecDepth 100000 in
theorem reqsParts_walk (M : ReqLaws) (A : Option Addr) (c : Nat) (zs : List Rq) (at_ : Int) (w : World) (w0 : IsReqs w A zs c) (w1 : (Lit.int .i64 at_).wf = true) :
    Calls Try.prog 3 #[.slice A zs.length c, .int .i64 at_] w fun e w' => e = .returned (.bool true) ∧ Below w.heap.size w w' := by
  have HM := Lib.hid M
  have HF3 := Lib.hid (show fit 3 from fit_small (by decide) (by decide))
  have HAt := Lib.hid w1
  have HBt := Lib.hid (both_any A c zs 3 w w0.has w0.fits)
  clear M w0 w1
  go_enter Try.func3, Try.ntmps3
  go_wp2_with fail
  refine HBt.out.mono ?_
  rintro e w2 ⟨outs, L, nb, bm, rb, v, R, rfl, hBo, hnd, hLl, hol, hfo⟩
  obtain ⟨Av, cv, rfl, hcv, _⟩ := own_slice hBo.own
  have HB2 := Lib.hid hBo.low
  have HX2 := Lib.hid (has_rows hBo.own)
  have HN2 := Lib.hid hBo.nt
  have HF2 := Lib.hid hfo
  clear hBo hnd hLl hfo HBt
  have HOr := Lib.hid (HM.out.order (c := cv) HX2.out rfl (by omega))
  go_wp2_with fail
  refine HOr.out.mono ?_
  rintro e w5 ⟨v, rfl, ho5, hb5⟩
  obtain ⟨Ax, cx, rfl, hcx, hcx2⟩ := own_slice ho5
  obtain ⟨xs, hxs⟩ : ∃ xs, orderS outs = xs := ⟨_, rfl⟩
  have hxl : xs.length ≤ 30 := by rw [← hxs]; exact Nat.le_trans (orderS_len outs) hol
  have HFx := Lib.hid (show ∀ r ∈ xs, r.Fits from fun r hr => HF2.out r (((ris_order outs).2 r).1 (by rw [hxs]; exact hr)))
  rw [hxs] at ho5 hcx ⊢
  have HX := Lib.hid (has_rows ho5)
  have HXn := Lib.hid (fun e => own_none1 ho5 e)
  have HNt := Lib.hid (HN2.out.below hb5)
  have HB5 := Lib.hid (HB2.out.trans (hb5.mono HB2.out.size))
  obtain ⟨k0, hk0⟩ : ∃ k0, xs.length = k0 := ⟨_, rfl⟩
  have HN := Lib.hid hk0
  rw [hk0] at hcx hxl ⊢
  clear hxs ho5 hb5 HOr HX2 HN2 HB2 HF2 hk0
  have HBa := Lib.hid (fun (wx : World) (k : Nat) (hk : k ≤ k0) (hq : Below w5.heap.size w5 wx) => HM.out.batch (HNt.out.below hq) (c := cx) ((has_head HX.out k).below hq (Nat.le_refl _)) (show (xs.take k).length = k by rw [List.length_take, HN.out]; omega) (by omega) (fun r hr => HFx.out r (List.mem_of_mem_take hr)) 40 3 HF3.out)
  go_wp2_with fail
  go_loopw [5] (fun y wr => ∃ k : Nat, y = .slice Ax k cx ∧ k ≤ k0 ∧ Hid (Below w5.heap.size w5 wr)) (fun y _ => sliceLen y)
  case atStart => exact ⟨k0, rfl, Nat.le_refl _, Below.refl _ _⟩
  case round =>
    obtain ⟨k, rfl, hk, HW⟩ := hrel
    by_cases hk0 : k = 0
    · subst hk0
      have HB0 := Lib.hid (HBa.out _ 0 (Nat.zero_le _) HW.out)
      rw [show xs.take 0 = [] from rfl, right_nil 40 3 (by omega) L] at HB0
      clear HBa
      go_wp2_with fail
      refine HB0.out.mono ?_
      rintro e w6 ⟨rfl, hb6⟩
      have HW6 := Lib.hid (HW.out.trans (hb6.mono HW.out.size))
      clear hb6
      go_wp2_with fail
      have HBn := Lib.hid (HM.out.batch (HNt.out.below HW6.out) (A := none) (c := 0) (k := 0) (B := 0) (zs := []) (Has.nil _ _ _) rfl (by omega) (by simp) 0 3 HF3.out)
      rw [right_nil 0 3 (by omega) L] at HBn
      refine HBn.out.mono ?_
      rintro e w7 ⟨rfl, hb7⟩
      have HW7 := Lib.hid (HW6.out.trans (hb7.mono HW6.out.size))
      clear hb7
      go_wp2_with fail
      refine (wakes5_any HM.out _).mono ?_
      rintro e w8 ⟨rfl, hb8⟩
      have HW8 := Lib.hid (HW7.out.trans (hb8.mono HW7.out.size))
      clear hb8
      go_wp2_with fail
      go_ret
      exact ⟨rfl, HB5.out.trans (HW8.out.mono HB5.out.size)⟩
    · have hkp : 0 < k := by omega
      have HBk := Lib.hid (HBa.out wr k hk HW.out)
      cases hr : rightS (xs.take k) 40 3 L
      · rw [hr] at HBk
        clear hr hk0
        have R1 := fun (w : World) => slice_head (w := w) Ax (n := k) (c := cx) (k := k - 1) (by omega)
        have hk1 : ((k - 1 : Nat) : Int) = (k : Int) - 1 := by omega
        rw [hk1] at R1
        have HK1 := Lib.hid hk1
        clear hk1
        go_wp2_with fail
        refine HBk.out.mono ?_
        rintro e w6 ⟨rfl, hb6⟩
        have HW6 := Lib.hid (HW.out.trans (hb6.mono HW.out.size))
        clear hb6
        go_wp2_with fail
        clear R1
        go_roundw
        case rel => exact ⟨k - 1, rfl, by omega, HW6.out⟩
        case measure => show k - 1 < k; omega
      · rw [hr] at HBk
        have HRk := Lib.hid hr
        have HBk2 := Lib.hid (fun (wx : World) (hq : Below w5.heap.size w5 wx) => HBa.out wx k hk hq)
        rw [hr] at HBk2
        clear hr hk0
        go_wp2_with fail
        refine HBk.out.mono ?_
        rintro e w6 ⟨rfl, hb6⟩
        have HW6 := Lib.hid (HW.out.trans (hb6.mono HW.out.size))
        clear hb6 HBk
        go_wp2_with fail
        refine (HBk2.out _ HW6.out).mono ?_
        rintro e w7 ⟨rfl, hb7⟩
        have HW7 := Lib.hid (HW6.out.trans (hb7.mono HW6.out.size))
        clear hb7
        go_wp2_with fail
        have HBn := Lib.hid (HM.out.batch (HNt.out.below HW7.out) (A := none) (c := 0) (k := 0) (B := 0) (zs := []) (Has.nil _ _ _) rfl (by omega) (by simp) 0 3 HF3.out)
        rw [right_nil 0 3 (by omega) L] at HBn
        refine HBn.out.mono ?_
        rintro e w8 ⟨rfl, hb8⟩
        have HW8 := Lib.hid (HW7.out.trans (hb8.mono HW7.out.size))
        clear hb8
        obtain ⟨i, hi, hik⟩ := mod_n at_ k hkp
        have HWi := Lib.hid (fun w => within_any at_ (k : Int) (by omega) (by omega) (wf_i64 HAt.out).1 (wf_i64 HAt.out).2 w)
        rw [hi] at HWi
        clear hi
        have tk : ((k : Int) == 0) = false := by rw [beq_eq_false_iff_ne]; omega
        go_wp2_with fail
        refine (HWi.out _).mono ?_
        rintro e w' ⟨rfl, rfl⟩
        clear tk
        go_wp2_with fail
        obtain ⟨ys, hys⟩ : ∃ ys, xs.take k = ys := ⟨_, rfl⟩
        have HLy := Lib.hid (show ys.length = k by rw [← hys, List.length_take, HN.out]; omega)
        have HFy := Lib.hid (show ∀ r ∈ ys, r.Fits from fun r hr => HFx.out r (List.mem_of_mem_take (by rw [hys]; exact hr)))
        have HXy := Lib.hid (show Has w5 w5.heap.size Ax (reqCells ys) by rw [← hys]; exact has_head HX.out k)
        rw [hys] at HRk
        clear hys HBa HBk2 HBn
        have hkc : k ≤ cx := by omega
        have R1 := fun (w : World) => slice_head (w := w) Ax (n := k) (c := cx) (k := i + 1) (by omega)
        rw [show ((i + 1 : Nat) : Int) = (i : Int) + 1 by omega] at R1
        have R2 := fun (w : World) => slice_tail (w := w) Ax (n := k) (c := cx) (k := i) (by omega)
        have R3 := fun (w : World) => slice_head (w := w) Ax (n := k) (c := cx) (k := i) (by omega)
        have HCp := Lib.hid (fun (wx : World) (hx : Has wx w5.heap.size Ax (reqCells (ys.take (i + 1)))) => copy_reqs Ax cx (i + 1) w5.heap.size (ys.take (i + 1)) wx (by rw [List.length_take, HLy.out]; omega) (by omega) hx HXn.out)
        have hq0 : Below w5.heap.size w5 w8.drew := HW8.out.trans ⟨rfl, rfl, rfl, Nat.le_refl _, fun _ _ => rfl⟩
        obtain ⟨i0, hi0, hx0, hx1, hx2⟩ := info_parts info_req
        have HTn := Lib.hid (fun e => tail_none (A := Ax) (c := cx) (k := i) HXn.out e)
        have HT1 := Lib.hid (reqCells_one (ys.drop i))
        have HTL := Lib.hid (show (reqCells (ys.drop i)).length = (k - i) * 6 by rw [reqCells_len, List.length_drop, HLy.out])
        have HM3 := Lib.hid (show i + 1 + (k - i) ≤ maxLen by unfold maxLen; omega)
        have HM4 := Lib.hid (show (i + 1 + (k - i)) * 48 ≤ 140737488355328 by omega)
        have HTl := Lib.hid (has_tail HXy.out (show ys.length ≤ cx by rw [HLy.out]; exact hkc) (show i ≤ ys.length by rw [HLy.out]; omega))
        have hw0 : i ≤ k := by omega
        have hw1 : IntKind.i64.wrap ((i : Int) + 1) = (i : Int) + 1 := IntWalk.i64_in _ (by omega)
        have hw4 : (i : Int) + 1 ≤ cx := by omega
        have hw2 : 0 ≤ (i : Int) + 1 := by omega
        have hw3 : ((i : Int) + 1).toNat = i + 1 := by omega
        go_region_law (first
          | (refine step_apps rfl (.tmp 55) (.tmp 58) 22 rfl w8.drew.heap.size 34 i0 (.agg #[.int .i64 0, .int .i64 0, .int .i64 0, .int .i64 0, .int .i64 0, .int .i64 0]) 6 48 Try.underlying22 hi0 hx0 hx1 hx2 rfl (by decide) (.slice Ac (i + 1) cc) (i + 1) (reqCells (ys.take (i + 1))) rfl hoc _ (tailA Ax cx i) (k - i) (cx - i) (reqCells (ys.drop i)) rfl HTL.out (HTl.out.below hqa (Nat.le_refl _)) HTn.out HT1.out HM3.out HM4.out hba.size ?_
             intro vd wz hod hgd hld
             obtain ⟨Ad, cd, rfl, _, _⟩ := own_slice hod)
          | (go_simp
             go_at_call 16
             refine (HCp.out _ ((has_head HXy.out (i + 1)).below hq0 (Nat.le_refl _))).mono ?_
             rintro e wa ⟨vc, rfl, hoc, hba⟩
             obtain ⟨Ac, cc, rfl, _, _⟩ := own_slice hoc
             have hqa : Below w5.heap.size w5 wa := hq0.trans (Below.mono hba hq0.size)))
        clear hw1 hw2 hw3 hw4
        have HW9 := Lib.hid (show Below w5.heap.size w5 wz from hqa.grown hgd hqa.size (fun g hg => by have := (hoc.lt g hg).1; have h8 := HW8.out.size; have h9 : w8.drew.heap.size = w8.heap.size := rfl; omega))
        obtain ⟨n9, hn9⟩ : ∃ n9, i + 1 + (k - i) = n9 := ⟨_, rfl⟩
        have HL9 := Lib.hid (show (ys.take (i + 1) ++ ys.drop i).length = n9 by rw [List.length_append, List.length_take, List.length_drop, HLy.out]; omega)
        have HX9 := Lib.hid (show Has wz wz.heap.size (Ad) (reqCells (ys.take (i + 1) ++ ys.drop i)) by rw [reqCells_app]; exact has_rows hod)
        have HF9 := Lib.hid (show ∀ r ∈ ys.take (i + 1) ++ ys.drop i, r.Fits from fun r hr => by
          rcases List.mem_append.1 hr with h | h
          · exact HFy.out r (List.mem_of_mem_take h)
          · exact HFy.out r (List.mem_of_mem_drop h))
        have hn9l : n9 ≤ 31 := by omega
        rw [hn9]
        clear hod hgd hld hoc hba hqa hq0 R1 R2 hn9 HCp HTn HT1 HTL HM3 HM4 HTl
        have HP1 := Lib.hid (HM.out.batch (HNt.out.below HW9.out) (c := cx) ((has_head HXy.out i).below HW9.out (Nat.le_refl _)) (show (ys.take i).length = i by rw [List.length_take, HLy.out]; omega) (by omega) (fun r hr => HFy.out r (List.mem_of_mem_take hr)) 40 3 HF3.out)
        rw [right_take HRk.out i] at HP1
        go_wp2_with fail
        refine HP1.out.mono ?_
        rintro e wa1 ⟨rfl, hb1⟩
        have HWa := Lib.hid (HW9.out.trans (hb1.mono HW9.out.size))
        have HX9a := Lib.hid (HX9.out.below hb1 (Nat.le_refl _))
        clear hb1 R3
        go_wp2_with fail
        have HP2 := Lib.hid (HM.out.batch (HNt.out.below HWa.out) (c := cd) HX9a.out HL9.out (by omega) HF9.out 40 3 HF3.out)
        rw [right_twice (by rw [HLy.out]; exact hik)] at HP2
        refine HP2.out.mono ?_
        rintro e wa2 ⟨rfl, hb2⟩
        have HWb := Lib.hid (HWa.out.trans (hb2.mono HWa.out.size))
        clear hb2
        have HP3 := Lib.hid (fun (z : Int) (hz : z = (k : Int) - 1) => HM.out.batch (HNt.out.below HWb.out) (c := cx) (HXy.out.below HWb.out (Nat.le_refl _)) HLy.out (by omega) HFy.out z 3 HF3.out)
        have HQ3 := Lib.hid (show rightS ys ((k : Int) - 1) 3 L = false from right_short (by rw [HLy.out]; omega))
        go_wp2_with fail
        have HP3b := Lib.hid (HP3.out _ rfl)
        rw [HQ3.out] at HP3b
        (with_reducible refine HP3b.out.mono ?_)
        rintro e wa3 ⟨rfl, hb3⟩
        have HWc := Lib.hid (HWb.out.trans (hb3.mono HWb.out.size))
        clear hb3 HX9 HX9a HP1 HP2 HP3 HP3b HQ3
        by_cases hi0 : 0 < i
        · obtain ⟨j, rfl⟩ : ∃ j, i = j + 1 := ⟨i - 1, by omega⟩
          have HC2 := Lib.hid (copy_reqs Ax cx k w5.heap.size ys wa3 HLy.out (by omega) (HXy.out.below HWc.out (Nat.le_refl _)) HXn.out)
          go_wp2_with fail
          refine HC2.out.mono ?_
          rintro e wb1 ⟨vy, rfl, hoy, hby⟩
          obtain ⟨Ay, cy, rfl, _, _⟩ := own_slice hoy
          obtain ⟨gy, capy, hvy, hgy, hltg⟩ := hoy.form (by omega)
          injection hvy with hv1 hv2 hv3
          subst hv1
          subst hv3
          have HWd := Lib.hid (HWc.out.trans (hby.mono HWc.out.size))
          have hjl : j < ys.length := by rw [HLy.out]; omega
          have hjl1 : j + 1 < ys.length := by rw [HLy.out]; omega
          obtain ⟨aa, haa, _, c0, c1, c2, c3, c4, c5⟩ := (has_rows hoy).req hjl
          cases haa
          obtain ⟨aa, haa, _, d0, d1, d2, d3, d4, d5⟩ := (has_rows hoy).req hjl1
          cases haa
          obtain ⟨a, ha⟩ : ∃ a, ys[j] = a := ⟨_, rfl⟩
          obtain ⟨b, hb⟩ : ∃ b, ys[j + 1] = b := ⟨_, rfl⟩
          rw [ha] at c0 c1 c2 c3 c4 c5
          rw [hb] at d0 d1 d2 d3 d4 d5
          rw [addr_at] at c0 c1 c2 c3 c4 c5 d0 d1 d2 d3 d4 d5
          have c1 : wb1.cell? ⟨gy, j * 6 + 1, none⟩ = some (.int .i64 a.tm) := c1
          have c2 : wb1.cell? ⟨gy, j * 6 + 2, none⟩ = some (.int .i64 a.kd) := c2
          have c3 : wb1.cell? ⟨gy, j * 6 + 3, none⟩ = some (.int .i64 a.ky) := c3
          have c4 : wb1.cell? ⟨gy, j * 6 + 4, none⟩ = some (.int .i64 a.vl) := c4
          have c5 : wb1.cell? ⟨gy, j * 6 + 5, none⟩ = some (.int .i64 a.sg) := c5
          have d1 : wb1.cell? ⟨gy, (j + 1) * 6 + 1, none⟩ = some (.int .i64 b.tm) := d1
          have d2 : wb1.cell? ⟨gy, (j + 1) * 6 + 2, none⟩ = some (.int .i64 b.kd) := d2
          have d3 : wb1.cell? ⟨gy, (j + 1) * 6 + 3, none⟩ = some (.int .i64 b.ky) := d3
          have d4 : wb1.cell? ⟨gy, (j + 1) * 6 + 4, none⟩ = some (.int .i64 b.vl) := d4
          have d5 : wb1.cell? ⟨gy, (j + 1) * 6 + 5, none⟩ = some (.int .i64 b.sg) := d5
          have HVa := Lib.hid (show ys[j]? = some a by rw [List.getElem?_eq_getElem hjl, ha])
          have HVb := Lib.hid (show ys[j + 1]? = some b by rw [List.getElem?_eq_getElem hjl1, hb])
          have hf := hoy.frozenAt
          have HOy := Lib.hid hoy
          have HGy := Lib.hid (show w5.heap.size ≤ gy from Nat.le_trans HWc.out.size hgy)
          have hjn1 : (j : Int) + 1 < (k : Int) := by omega
          have hjn2 : j < k := by omega
          clear hjl hjl1 ha hb hoy hby hgy hltg HC2
          go_wp2_with fail
          go_big_region
          obtain ⟨w6, hw6⟩ : ∃ w6, w6 = ((((((((((((wb1.setCell ⟨gy, (j + 1) * 6, none⟩ (.int .i64 a.cl)).setCell ⟨gy, (j + 1) * 6 + 1, none⟩ (.int .i64 a.tm)).setCell ⟨gy, (j + 1) * 6 + 2, none⟩ (.int .i64 a.kd)).setCell ⟨gy, (j + 1) * 6 + 3, none⟩ (.int .i64 a.ky)).setCell ⟨gy, (j + 1) * 6 + 4, none⟩ (.int .i64 a.vl)).setCell ⟨gy, (j + 1) * 6 + 5, none⟩ (.int .i64 a.sg)).setCell ⟨gy, j * 6, none⟩ (.int .i64 b.cl)).setCell ⟨gy, j * 6 + 1, none⟩ (.int .i64 b.tm)).setCell ⟨gy, j * 6 + 2, none⟩ (.int .i64 b.kd)).setCell ⟨gy, j * 6 + 3, none⟩ (.int .i64 b.ky)).setCell ⟨gy, j * 6 + 4, none⟩ (.int .i64 b.vl)).setCell ⟨gy, j * 6 + 5, none⟩ (.int .i64 b.sg)).drew := ⟨_, rfl⟩
          rw [← hw6]
          obtain ⟨ho6, hb6⟩ := swap_done HOy.out HWd.out HGy.out HVa.out HVb.out hw6
          have HO6 := Lib.hid (has_rows ho6)
          have HW6 := Lib.hid hb6
          clear hw6 ho6 hb6 c0 c1 c2 c3 c4 c5 d0 d1 d2 d3 d4 d5 hf HOy
          have HP4 := Lib.hid (HM.out.batch (HNt.out.below HW6.out) (c := cy) HO6.out (show (swapR ys j).length = k by rw [swap_len, HLy.out]) (by omega) (fun r hr => HFy.out r (swap_mem hr)) 40 3 HF3.out)
          rw [right_swap (by rw [HLy.out]; exact hik) HRk.out] at HP4
          go_wp2_with fail
          refine HP4.out.mono ?_
          rintro e w7' ⟨rfl, hb7⟩
          have HW7' := Lib.hid (HW6.out.trans (hb7.mono HW6.out.size))
          clear hb7
          go_wp2_with fail
          refine (wakes5_any HM.out _).mono ?_
          rintro e wa4 ⟨rfl, hb4⟩
          have HWe := Lib.hid (HW7'.out.trans (hb4.mono HW7'.out.size))
          clear hb4
          go_wp2_with fail
          go_ret
          exact ⟨rfl, HB5.out.trans (HWe.out.mono HB5.out.size)⟩
        · have hi1 : i = 0 := by omega
          go_wp2_with fail
          refine (wakes5_any HM.out _).mono ?_
          rintro e wa4 ⟨rfl, hb4⟩
          have HWd := Lib.hid (HWc.out.trans (hb4.mono HWc.out.size))
          clear hb4
          go_wp2_with fail
          go_ret
          exact ⟨rfl, HB5.out.trans (HWd.out.mono HB5.out.size)⟩
end Go.Proofs.Ytdopgdaobpcbjaa
