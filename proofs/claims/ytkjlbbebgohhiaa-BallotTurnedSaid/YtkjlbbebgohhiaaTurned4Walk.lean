/- The walk of BallotTurned: it returns true for any ints. (Asks for a set's contracts as SetLaws, for Rising's as RowLaws.) -/
import Derived.Test.YtkjlbbebgohhiaaComm4Walk
import Derived.Test.YtkjlbbebgohhiaaWeak4Walk
import Derived.Test.YtkjlbbebgohhiaaSameInts
import Derived.Test.YtkjlbbebgohhiaaCopyVotes
namespace Go.Proofs.Ytkjlbbebgohhiaa
open Go.RowKit

/-- The set has the nodes of a list. -/
def MarksOf (bs : List Bool) (l : List Int) : Prop := ∀ k : Nat, k < 13 → (marked bs (k : Int) = true ↔ (k : Int) ∈ l)
theorem MarksOf.none : MarksOf noMarks [] := fun k _ => by rw [none_marked]; simp
theorem marked_put {bs : List Bool} (hl : bs.length = 13) {z : Int} {k : Nat} (hk : k < 13) : marked (putS bs z) (k : Int) = true ↔ marked bs (k : Int) = true ∨ (k : Int) = z := by
  by_cases e : (k : Int) = z
  · subst e
    exact ⟨fun _ => Or.inr rfl, fun _ => put_marked hl hk⟩
  · rw [put_else e]
    exact ⟨Or.inl, fun h => h.elim id (fun h => absurd h e)⟩
theorem MarksOf.snoc {bs : List Bool} {l : List Int} (h : MarksOf bs l) (hl : bs.length = 13) (z : Int) : MarksOf (putS bs z) (l ++ [z]) := fun k hk => by
  rw [marked_put hl hk, h k hk, List.mem_append, List.mem_singleton]
theorem MarksOf.cons {bs : List Bool} {l : List Int} (h : MarksOf bs l) (hl : bs.length = 13) (z : Int) : MarksOf (putS bs z) (z :: l) := fun k hk => by
  rw [marked_put hl hk, h k hk, List.mem_cons]
  exact Or.comm
theorem MarksOf.all {ba bb : List Bool} {l : List Int} (h : MarksOf ba l) (h' : MarksOf bb l) : allS bb = allS ba := by
  unfold allS
  rw [List.filter_congr (q := fun k : Nat => marked ba (k : Int)) (fun k hk => by
    have hk := List.mem_range.1 hk
    rw [Bool.eq_iff_iff, h k hk, h' k hk])]
/-- Two neighbours changed about. -/
def turn (l : List Vt) (i : Nat) : List Vt := match l[i]?, l[i + 1]? with
  | some a, some b => (l.set i b).set (i + 1) a
  | _, _ => l
theorem turn_len (l : List Vt) (i : Nat) : (turn l i).length = l.length := by unfold turn; split <;> simp
theorem turn_falls {l : List Vt} {i : Nat} {f : Int} (h : risingS l f = true) (hi : i + 1 < l.length) : risingS (turn l i) f = false := by
  unfold risingS at h
  simp only [Bool.and_eq_true, decide_eq_true_eq] at h
  have hp := (rises_all h.2).2
  have h1 := List.pairwise_iff_getElem.1 hp i (i + 1) (by omega) hi (by omega)
  rcases hb : risingS (turn l i) f with _ | _
  · rfl
  · unfold risingS at hb
    simp only [Bool.and_eq_true, decide_eq_true_eq] at hb
    have hq := (rises_all hb.2).2
    have h2 := List.pairwise_iff_getElem.1 hq i (i + 1) (by rw [turn_len]; omega) (by rw [turn_len]; exact hi) (by omega)
    have e1 : (turn l i)[i]? = some l[i + 1] := by
      unfold turn
      rw [List.getElem?_eq_getElem (by omega : i < l.length), List.getElem?_eq_getElem hi]
      show ((l.set i l[i + 1]).set (i + 1) l[i])[i]? = _
      rw [List.getElem?_set_ne (by omega), List.getElem?_set_self (by omega)]
    have e2 : (turn l i)[i + 1]? = some l[i] := by
      unfold turn
      rw [List.getElem?_eq_getElem (by omega : i < l.length), List.getElem?_eq_getElem hi]
      show ((l.set i l[i + 1]).set (i + 1) l[i])[i + 1]? = _
      rw [List.getElem?_set_self (by simpa using hi)]
    obtain ⟨_, e3⟩ := List.getElem?_eq_some_iff.1 e1
    obtain ⟨_, e4⟩ := List.getElem?_eq_some_iff.1 e2
    rw [e3, e4] at h2
    omega
theorem turn_is {l : List Vt} {i : Nat} {a b : Vt} (h1 : l[i]? = some a) (h2 : l[i + 1]? = some b) : turn l i = (l.set i b).set (i + 1) a := by
  unfold turn
  rw [h1, h2]
theorem voteCells_set : ∀ (l : List Vt) (k : Nat) (v : Vt), ((voteCells l).set (k * 2) (.int .i64 v.nd)).set (k * 2 + 1) (.int .i64 v.sg) = voteCells (l.set k v)
  | [], _, _ => by simp [voteCells]
  | _ :: _, 0, _ => rfl
  | x :: l, k + 1, v => by
    have h := voteCells_set l k v
    rw [show (k + 1) * 2 = k * 2 + 1 + 1 by omega]
    show Value.int .i64 x.nd :: Value.int .i64 x.sg :: ((voteCells l).set (k * 2) (.int .i64 v.nd)).set (k * 2 + 1) (.int .i64 v.sg) = _
    rw [h]
    rfl
theorem turn_done {w3 w4 w5 : World} {B gy n c j : Nat} {xs : List Vt} {a b : Vt} (h : w4.ownsRow B 38 2 (.slice (some ⟨gy, 0, none⟩) n c) n (voteCells xs)) (hb : Below B w3 w4) (hg : B ≤ gy) (h1 : xs[j]? = some a) (h2 : xs[j + 1]? = some b)
    (hw : w5 = ((((w4.setCell ⟨gy, j * 2, none⟩ (.int .i64 b.nd)).setCell ⟨gy, j * 2 + 1, none⟩ (.int .i64 b.sg)).setCell ⟨gy, (j + 1) * 2, none⟩ (.int .i64 a.nd)).setCell ⟨gy, (j + 1) * 2 + 1, none⟩ (.int .i64 a.sg)).drew) :
    w5.ownsRow B 38 2 (.slice (some ⟨gy, 0, none⟩) n c) n (voteCells (turn xs j)) ∧ Below B w3 w5 := by
  have k := ((((h.stored (j * 2) (.int .i64 b.nd)).1.stored (j * 2 + 1) (.int .i64 b.sg)).1.stored ((j + 1) * 2) (.int .i64 a.nd)).1.stored ((j + 1) * 2 + 1) (.int .i64 a.sg)).1
  rw [voteCells_set, voteCells_set] at k
  have q := (((hb.setCell (p := ⟨gy, j * 2, none⟩) hg (.int .i64 b.nd)).setCell (p := ⟨gy, j * 2 + 1, none⟩) hg (.int .i64 b.sg)).setCell (p := ⟨gy, (j + 1) * 2, none⟩) hg (.int .i64 a.nd)).setCell (p := ⟨gy, (j + 1) * 2 + 1, none⟩) hg (.int .i64 a.sg)
  rw [hw, turn_is h1 h2]
  generalize ((((w4.setCell ⟨gy, j * 2, none⟩ (.int .i64 b.nd)).setCell ⟨gy, j * 2 + 1, none⟩ (.int .i64 b.sg)).setCell ⟨gy, (j + 1) * 2, none⟩ (.int .i64 a.nd)).setCell ⟨gy, (j + 1) * 2 + 1, none⟩ (.int .i64 a.sg)) = wx at k q
  exact ⟨k, q.os, q.tape, q.output, q.size, q.block⟩
theorem Has.rest {w : World} {B g : Nat} {l : List Vt} (h : Has w B (some ⟨g, 0, none⟩) (voteCells l)) : Has w B (some ⟨g, 2, none⟩) (voteCells (l.drop 1)) := fun j u hj => by
  have e : voteCells (l.drop 1) = (voteCells l).drop 2 := by cases l <;> rfl
  rw [e, List.getElem?_drop] at hj
  obtain ⟨ad, he, hb, hc⟩ := h (2 + j) u hj
  cases he
  refine ⟨_, rfl, hb, ?_⟩
  rw [addr_at] at hc
  rw [show (⟨g, 2, none⟩ : Addr) = (⟨g, 0, none⟩ : Addr).add 2 from (addr_at g 2).symm, addr_add, addr_at]
  exact hc
theorem falls_len {l : List Vt} {f : Int} (h : (l.length : Int) ≠ 2 * f + 1) : risingS l f = false := by
  unfold risingS
  simp only [Bool.and_eq_false_iff, decide_eq_false_iff_not]
  first
    | exact Or.inl (Or.inr h)
    | exact Or.inl h
    | (by_cases hf : 1 ≤ f ∧ f ≤ 4 <;> simp_all)

theorem wpList_append_guarded {P : Program} {w : World} {ops : Array Oper} {rest : List Oper} {o : Oper} {a : Act} {Q : Exit → Act → World → Prop} (hgd : Region.wanted o (yielded ops a.tmps) = true) (s x : Operand) (t : TypeId)
    (ho : o.op = .call { callee := .builtin .append, args := #[s, x], argTypes := #[t, t] })
    (base : Nat) (e : TypeId) (i : TypeInfo) (z : Value) (size bytes : Nat) (ht : P.underlying t = some (.slice e)) (hi : P.info? e = some i) (hz : i.zero = some z)
    (hsize : i.size = size) (hby : i.bytes = bytes) (hzs : z.cells.size = size) (hsz : 0 < size)
    (v : Value) (n : Nat) (xs : List Value) (hs : a.eval s = v) (hown : w.ownsRow base e size v n xs)
    (ad : Addr) (m c : Nat) (news : List Value) (hx : a.eval x = .slice (some ad) m c) (hl : news.length = m * size) (hnews : ∀ j u, news[j]? = some u → w.cell? (ad.add j) = some u) (h1 : ∀ u ∈ news, u.oneCell' = true)
    (h63 : n + m ≤ maxLen) (hbytes : (n + m) * bytes ≤ 140737488355328) (hbase : base ≤ w.heap.size)
    (h : ∀ v' w', w'.ownsRow base e size v' (n + m) (xs ++ news) → w.grownBy w' v.ownBlock → (v' = .slice none 0 0 ↔ v = .slice none 0 0 ∧ m = 0) → wpList P ops Q rest (a.put o.dst v') w') : wpList P ops Q (o :: rest) a w :=
  wpList_step fun K hK => by
    rw [if_pos hgd]
    exact wp_append_own w s x t ho base e i z size bytes ht hi hz hsize hby hzs hsz v n xs hs hown ad m c news hx hl hnews h1 h63 hbytes hbase fun v' w' h2 h3 h4 => hK _ _ (h v' w' h2 h3 h4)

set_option maxHeartbeats 1200000 in
set_option maxRecDepth 100000 in
theorem ballotTurned_walk (S : SetLaws) (R : RowLaws) (f : Int) (A : Option Addr) (c : Nat) (l : List Int) (at_ : Int) (w : World) (w0 : (Lit.int .i64 f).wf = true) (w1 : IsList .i64 w A l c) (w2 : (Lit.int .i64 at_).wf = true) :
    Calls Try.prog 4 #[.int .i64 f, .slice A l.length c, .int .i64 at_] w fun e w' => e = .returned (.bool true) ∧ Below w.heap.size w w' := by
  obtain ⟨q, hq, hq4⟩ := mod_four f
  have HW1 := Lib.hid (fun w => within_any f 4 (by omega) (by omega) (wf_i64 w0).1 (wf_i64 w0).2 w)
  rw [hq] at HW1
  obtain ⟨F, hF⟩ : ∃ F : Nat, q + 1 = F := ⟨_, rfl⟩
  have hF1 : 1 ≤ F := by omega
  have hF2 : F ≤ 4 := by omega
  have hFq : 1 + (q : Int) = F := by omega
  have HS := Lib.hid S
  have HR := Lib.hid R
  have HLA := Lib.hid w1
  obtain ⟨n, hn⟩ : ∃ n, 2 * F + 1 = n := ⟨_, rfl⟩
  have hn3 : 3 ≤ n := by omega
  have hn9 : n ≤ 9 := by omega
  obtain ⟨j, hj, hj2⟩ := mod_nat at_ ((n : Int) - 1) (by omega)
  have hjn : j + 1 < n := by omega
  have HW2 := Lib.hid (fun w => within_any at_ ((n : Int) - 1) (by omega) (by omega) (wf_i64 w2).1 (wf_i64 w2).2 w)
  rw [hj] at HW2
  clear hq w0 S R w1 w2 hj hj2
  go_enter Try.func4, Try.ntmps4
  go_wp2_with fail
  refine (HW1.out _).mono ?_
  rintro e w' ⟨rfl, rfl⟩
  go_upto_block 0 with fail
  have HS0 := Lib.hid (show WkSt w noMarks noMarks ((w.alloc (.cells #[.int .u16 0] 30)).alloc (.cells #[.int .u16 0] 30)) from
    ⟨(SetIs.new w).below ((Below.refl _ _).alloc (Nat.le_refl _) _), by have := SetIs.new (w.alloc (.cells #[.int .u16 0] 30)); simpa using this, ((Below.refl _ _).alloc (Nat.le_refl _) _).alloc (by simp) _⟩)
  obtain ⟨M, hM⟩ : ∃ M, min l.length 40 = M := ⟨_, rfl⟩
  have hM1 : M ≤ l.length := by omega
  have hM2 : M ≤ 40 := by omega
  go_cut [9] (fun s9 wx => ∃ ba, WkSt w ba noMarks wx ∧ MarksOf ba (l.take M))
  case first => as_aux_lemma =>
    have hl2 := Nat.le_trans HLA.out.le HLA.out.most
    unfold maxLen at hl2
    go_wp2_with fail
    go_loopw [9] (fun x wr => ∃ (i : Nat) (ba : List Bool), x = .int .i64 i ∧ i ≤ 40 ∧ i ≤ l.length ∧ Hid (WkSt w ba noMarks wr) ∧ Hid (MarksOf ba (l.take i))) (fun x _ => 40 - (intOf x).toNat)
    case atStart => exact ⟨0, noMarks, rfl, Nat.zero_le _, Nat.zero_le _, HS0.out, MarksOf.none⟩
    case round =>
      obtain ⟨i, ba, rfl, hi, hil, HSt, HMk⟩ := hrel
      by_cases hc : i < l.length ∧ i < 40
      · obtain ⟨h1, h2⟩ := hc
        obtain ⟨ad, z, rfl, _, hcell, hz, _⟩ := ((HLA.out.has.below HSt.out.low (Nat.le_refl _)).int h1)
        have HP := Lib.hid (HS.out.put HSt.out.a z)
        have HM2 := Lib.hid (show MarksOf (putS ba z) (l.take (i + 1)) by rw [take_snoc hz]; exact HMk.out.snoc HSt.out.a.len z)
        clear hz
        go_wp2_with fail
        refine HP.out.mono ?_
        rintro e w3 ⟨rfl, hs3, ho3⟩
        have HSt3 := Lib.hid (show WkSt w (putS ba z) noMarks w3 from ⟨hs3, HSt.out.b.only ho3 (by omega), HSt.out.low.trans (ho3.below (Nat.le_refl _) HSt.out.low.size)⟩)
        clear hs3 ho3
        go_wp2_with fail
        go_roundw
        case rel => exact ⟨i + 1, _, by go_num, by omega, by omega, HSt3.out, HM2.out⟩
        case measure => simp [intOf]; omega
      · have hor : (i < l.length ∧ 40 ≤ i) ∨ l.length ≤ i := by omega
        clear hc
        rcases hor with ⟨hq, hq2⟩ | hq
        all_goals
          obtain rfl : M = i := by omega
          go_wp2_with fail
          go_meet
          exact ⟨ba, HSt.out, HMk.out⟩
  case rest => as_aux_lemma =>
    obtain ⟨ba, hSt, hMa⟩ := hcut
    have HStA := Lib.hid hSt
    have HMa := Lib.hid hMa
    clear hSt hMa HS0
    have HMin := Lib.hid (show (if (40 : Int) < l.length then 40 else (l.length : Int)) = M by split <;> omega)
    go_upto_block 2 with fail
    rw [HMin.out]
    go_cut [10] (fun s10 wx => ∃ bb, WkSt w ba bb wx ∧ MarksOf bb (l.take M))
    case first => as_aux_lemma =>
      have HTl := Lib.hid (show (l.take M).length = M by rw [List.length_take]; omega)
      go_wp2_with fail
      go_loopw [10] (fun x wr => ∃ (i : Nat) (z : Int) (bb : List Bool), x = .int .i64 z ∧ z = (i : Int) - 1 ∧ i ≤ M ∧ Hid (WkSt w ba bb wr) ∧ Hid (MarksOf bb ((l.take M).drop i))) (fun x _ => (intOf x + 1).toNat)
      case atStart => exact ⟨M, _, noMarks, rfl, rfl, Nat.le_refl _, HStA.out, (by rw [List.drop_eq_nil_of_le (Nat.le_of_eq HTl.out)]; exact MarksOf.none : MarksOf noMarks _)⟩
      case round =>
        obtain ⟨i, p, bb, rfl, hp, hi, HSt, HMk⟩ := hrel
        by_cases hi0 : i = 0
        · subst hi0
          obtain rfl : p = -1 := by omega
          have HMk2 := Lib.hid (show MarksOf bb (l.take M) from HMk.out)
          clear hp
          go_wp2_with fail
          go_meet
          exact ⟨bb, HSt.out, HMk2.out⟩
        · obtain ⟨k, rfl⟩ : ∃ k, i = k + 1 := ⟨i - 1, by omega⟩
          obtain rfl : p = (k : Int) := by omega
          have hkl : k < l.length := by omega
          obtain ⟨ad, z, rfl, _, hcell, hz, _⟩ := ((HLA.out.has.below HSt.out.low (Nat.le_refl _)).int hkl)
          have HP := Lib.hid (HS.out.put HSt.out.b z)
          have HM2 := Lib.hid (show MarksOf (putS bb z) ((l.take M).drop k) by
            rw [show (l.take M).drop k = z :: (l.take M).drop (k + 1) by
              rw [List.drop_take, List.drop_take, hz, show M - k = (M - (k + 1)) + 1 by omega, List.take_succ_cons]]
            exact HMk.out.cons HSt.out.b.len z)
          clear hz hp hi0
          go_wp2_with fail
          refine HP.out.mono ?_
          rintro e w3 ⟨rfl, hs3, ho3⟩
          have HSt3 := Lib.hid (show WkSt w ba (putS bb z) w3 from ⟨HSt.out.a.only ho3 (by omega), hs3, HSt.out.low.trans (ho3.below (Nat.le_succ _) HSt.out.low.size)⟩)
          clear hs3 ho3
          go_wp2_with fail
          go_roundw
          case rel => exact ⟨k, _, _, by go_num, rfl, by omega, HSt3.out, HM2.out⟩
          case measure => simp [intOf]
    case rest => as_aux_lemma =>
      obtain ⟨bb, hSt, hMb⟩ := hcut
      have HSt := Lib.hid hSt
      have HEq := Lib.hid (HMa.out.all hMb)
      have HAll := Lib.hid (HS.out.all hSt.a)
      clear hSt hMb HMa HStA
      go_wp2_with fail
      refine HAll.out.mono ?_
      rintro e wa ⟨v, rfl, ho, hba⟩
      obtain ⟨Ax, cx, hv, _, _⟩ := own_slice ho
      subst hv
      have HXa := Lib.hid (show Has wa wa.heap.size Ax ((allS ba).map (Value.int .i64)) from Has.own ho)
      have HSa := Lib.hid (show WkSt w ba bb wa from ⟨HSt.out.a.below hba, HSt.out.b.below hba, HSt.out.low.trans (hba.mono HSt.out.low.size)⟩)
      have HAlb := Lib.hid (HS.out.all HSa.out.b)
      rw [HEq.out] at HAlb
      obtain ⟨zs, hzs⟩ : ∃ zs, allS ba = zs := ⟨_, rfl⟩
      have HZl := Lib.hid (show zs.length ≤ 13 by
        rw [← hzs]; unfold allS; rw [List.length_map]
        exact Nat.le_trans (List.length_filter_le _ _) (by simp))
      rw [hzs] at HXa HAlb ⊢
      clear ho hba hzs HAll HSt HEq
      go_wp2_with fail
      refine HAlb.out.mono ?_
      rintro e wb ⟨v, rfl, ho, hbb⟩
      obtain ⟨Ay, cy, hv, _, _⟩ := own_slice ho
      subst hv
      have HXb := Lib.hid (HXa.out.below hbb (Nat.le_refl _))
      have HYb := Lib.hid (show Has wb wb.heap.size Ay (zs.map (Value.int .i64)) from Has.own ho)
      have HSm := Lib.hid (same_ints Ax Ay cx cy zs zs wb.heap.size wb (by have := HZl.out; omega) (HXb.out.more hbb.size) HYb.out)
      have HTr := Lib.hid (show sameB zs zs = true by simp [sameB])
      rw [HTr.out] at HSm
      have HBb := Lib.hid (HSa.out.low.trans (hbb.mono HSa.out.low.size))
      clear ho hbb HAlb HXa HSa
      go_wp2_with fail
      refine HSm.out.mono ?_
      rintro e wc ⟨rfl, m, hwc⟩
      have HBc := Lib.hid (show Below w.heap.size w wc by rw [hwc]; exact HBb.out.trans ⟨rfl, rfl, rfl, Nat.le_refl _, fun _ _ => rfl⟩)
      have HRow := Lib.hid (row_any (c := c) hF1 hF2 (HLA.out.has.below HBc.out (Nat.le_refl _)) HBc.out.size HLA.out.fits (Nat.le_trans HLA.out.le HLA.out.most))
      clear hwc HBb HXb HYb
      go_wp2_with fail
      refine HRow.out.mono ?_
      rintro e w3 ⟨v, xs, rfl, hox, hrx, hb3⟩
      obtain ⟨Ar, cr, hv, hcr, _⟩ := own_slice hox
      subst hv
      have HRx := Lib.hid hrx
      have HLx := Lib.hid (show xs.length = n by rw [(RowIs.of hrx).len, hn])
      have hcr1 : ¬cr = 1 := by have := HLx.out; omega
      rw [HLx.out] at hox ⊢
      obtain ⟨g, cg, hv, _, hgt⟩ := hox.form (by omega)
      obtain rfl : Ar = some ⟨g, 0, none⟩ := by injection hv
      have HX := Lib.hid (show Has w3 w3.heap.size (some ⟨g, 0, none⟩) (voteCells xs) from fun i u hi => ⟨_, rfl, hgt, hox.cells (g := g) rfl i u hi⟩)
      have HB3 := Lib.hid (HBc.out.trans (hb3.mono HBc.out.size))
      have HCp := Lib.hid (copy_votes (some ⟨g, 0, none⟩) cr n w3.heap.size xs w3 HLx.out (by omega) HX.out (fun h => by cases h))
      have HOx := Lib.hid hox
      clear hox hb3 hv hrx hgt
      go_wp2_with fail
      refine (HW2.out _).mono ?_
      rintro e w' ⟨rfl, rfl⟩
      go_wp2_with fail
      refine HCp.out.mono ?_
      rintro e w4 ⟨v, rfl, hoy, hb4⟩
      obtain ⟨gy, cy2, rfl, hgy0, hgy⟩ := hoy.form (by omega)
      have HGy := Lib.hid hgy0
      have hjx : j < xs.length := by rw [HLx.out]; omega
      have hjx1 : j + 1 < xs.length := by rw [HLx.out]; omega
      have HY := Lib.hid (show Has w4 w4.heap.size (some ⟨gy, 0, none⟩) (voteCells xs) from fun i u hi => ⟨_, rfl, hgy, hoy.cells (g := gy) rfl i u hi⟩)
      obtain ⟨aa, haa, _, c0, c1⟩ := vote_at HY.out hjx
      cases haa
      obtain ⟨aa, haa, _, c2, c3⟩ := vote_at HY.out hjx1
      cases haa
      obtain ⟨va, hva⟩ : ∃ v, xs[j] = v := ⟨_, rfl⟩
      obtain ⟨vb, hvb⟩ : ∃ v, xs[j + 1] = v := ⟨_, rfl⟩
      rw [hva] at c0 c1
      rw [hvb] at c2 c3
      rw [addr_at] at c0 c1 c2 c3
      have hf := hoy.frozenAt
      have hjn1 : (j : Int) + 1 < (n : Int) := by omega
      have HOy := Lib.hid hoy
      have HB4 := Lib.hid hb4
      have c1 : w4.cell? ⟨gy, j * 2 + 1, none⟩ = some (.int .i64 va.sg) := c1
      have c3 : w4.cell? ⟨gy, (j + 1) * 2 + 1, none⟩ = some (.int .i64 vb.sg) := c3
      have HVa := Lib.hid (show xs[j]? = some va by rw [List.getElem?_eq_getElem hjx, hva])
      have HVb := Lib.hid (show xs[j + 1]? = some vb by rw [List.getElem?_eq_getElem hjx1, hvb])
      clear hjx hjx1 hva hvb hoy hb4 hgy hgy0
      go_wp2_with fail
      go_big_region
      obtain ⟨w5, hw5⟩ : ∃ w5, w5 = ((((w4.setCell ⟨gy, j * 2, none⟩ (.int .i64 vb.nd)).setCell ⟨gy, j * 2 + 1, none⟩ (.int .i64 vb.sg)).setCell ⟨gy, (j + 1) * 2, none⟩ (.int .i64 va.nd)).setCell ⟨gy, (j + 1) * 2 + 1, none⟩ (.int .i64 va.sg)).drew := ⟨_, rfl⟩
      rw [← hw5]
      obtain ⟨ho5, hb5⟩ := turn_done HOy.out HB4.out HGy.out HVa.out HVb.out hw5
      have HO5 := Lib.hid ho5
      have HB5 := Lib.hid hb5
      clear hw5 ho5 hb5
      have HX5 := Lib.hid (HX.out.below HB5.out (Nat.le_refl _))
      have HY5 := Lib.hid (has_rows HO5.out)
      have HBw := Lib.hid (HB3.out.trans (HB5.out.mono HB3.out.size))
      have HR1 := Lib.hid (HR.out.rising (c := cr) HX5.out HLx.out (by unfold maxLen; omega) (F : Int))
      rw [HRx.out] at HR1
      have HTl := Lib.hid (show (turn xs j).length = n by rw [turn_len, HLx.out])
      have HTf := Lib.hid (show risingS (turn xs j) (F : Int) = false from turn_falls HRx.out (by rw [HLx.out]; exact hjn))
      clear c0 c1 c2 c3 hf HW1 HW2
      go_wp2_with fail
      refine HR1.out.mono ?_
      rintro e w6 ⟨rfl, hb6⟩
      have HR2 := Lib.hid (HR.out.rising (c := cy2) (HY5.out.below hb6 (Nat.le_refl _)) HTl.out (by unfold maxLen; omega) (F : Int))
      rw [HTf.out] at HR2
      have HX6 := Lib.hid (HX5.out.below hb6 HB5.out.size)
      have HB6 := Lib.hid (HBw.out.trans (hb6.mono HBw.out.size))
      have HB36 := Lib.hid (HB5.out.trans (hb6.mono HB5.out.size))
      clear hb6
      go_wp2_with fail
      refine HR2.out.mono ?_
      rintro e w7 ⟨rfl, hb7⟩
      have HX7 := Lib.hid (HX6.out.below hb7 HB36.out.size)
      have HB7 := Lib.hid (HB6.out.trans (hb7.mono HB6.out.size))
      have HB37 := Lib.hid (HB36.out.trans (hb7.mono HB36.out.size))
      clear hb7
      go_wp2_with fail
      have HR3 := Lib.hid (HR.out.rising (c := cr - 1) (HX7.out.rest) (show (xs.drop 1).length = n - 1 by rw [List.length_drop, HLx.out]) (by unfold maxLen; omega) (F : Int))
      have HDf := Lib.hid (show risingS (xs.drop 1) (F : Int) = false from falls_len (by rw [List.length_drop, HLx.out]; omega))
      rw [HDf.out] at HR3
      refine HR3.out.mono ?_
      rintro e w8 ⟨rfl, hb8⟩
      have HX8 := Lib.hid (HX7.out.below hb8 HB37.out.size)
      have HB8 := Lib.hid (HB7.out.trans (hb8.mono HB7.out.size))
      have HCp8 := Lib.hid (copy_votes (some ⟨g, 0, none⟩) cr n w3.heap.size xs w8 HLx.out (by omega) HX8.out (fun h => by cases h))
      clear hb8
      go_wp2_with fail
      refine HCp8.out.mono ?_
      rintro e w9 ⟨v, rfl, ho9, hb9⟩
      obtain ⟨gz, cz, rfl, _, hgz⟩ := ho9.form (by omega)
      obtain ⟨i0, hi0, hx0, hx1, hx2⟩ := info_parts info_vote
      have HNew := Lib.hid (show ∀ j u, [Value.int .i64 (3 * (F : Int) + 1), Value.int .i64 0][j]? = some u → (w9.alloc (.cells #[.int .i64 (3 * (F : Int) + 1), .int .i64 0] 38)).cell? ((⟨w9.heap.size, 0, none⟩ : Addr).add j) = some u from fun j u hj => by
        obtain ⟨_, he, _, hc⟩ := (Has.fresh w9 #[.int .i64 (3 * (F : Int) + 1), .int .i64 0] 38) j u hj
        cases he
        exact hc)
      have HOne := Lib.hid (show ∀ u ∈ [Value.int .i64 (3 * (F : Int) + 1), Value.int .i64 0], u.oneCell' = true from fun u hu => by
        simp at hu
        rcases hu with rfl | rfl <;> rfl)
      have HS1 := Lib.hid (show n + 1 ≤ maxLen by unfold maxLen; omega)
      have HS2 := Lib.hid (show (n + 1) * 16 ≤ 140737488355328 by omega)
      have HS3 := Lib.hid (show w8.heap.size ≤ (w9.alloc (.cells #[.int .i64 (3 * (F : Int) + 1), .int .i64 0] 38)).heap.size by have := hb9.size; simp; omega)
      have HB9 := Lib.hid hb9
      have HO9 := Lib.hid ho9
      clear hb9 ho9 hgz
      go_wp2_with (at_builtin; refine wpList_append_guarded (by first | rfl | simp [Region.wanted, yielded]) _ _ 34 rfl w8.heap.size 38 i0 _ 2 16 Try.underlying34 hi0 hx0 hx1 hx2 rfl (by decide) _ _ _ rfl (HO9.out.alloc _) ⟨w9.heap.size, 0, none⟩ 1 1 [.int .i64 (3 * (F : Int) + 1), .int .i64 0] rfl rfl HNew.out HOne.out HS1.out HS2.out HS3.out ?_)
      intro v2 w10 ho2 hg2 _
      obtain ⟨Az, cz2, hv, _, _⟩ := own_slice ho2
      subst hv
      have hb10 : Below w8.heap.size w8 w10 := (HB9.out.alloc HB9.out.size _).grown hg2 HS3.out (fun k hk => (HO9.out.lt k hk).1)
      have HB10 := Lib.hid (HB8.out.trans (hb10.mono HB8.out.size))
      have HX10 := Lib.hid (show Has w10 w10.heap.size Az (voteCells (xs ++ [Vt.mk (3 * (F : Int) + 1) 0])) by rw [voteCells_app]; exact has_rows ho2)
      have HLz := Lib.hid (show (xs ++ [Vt.mk (3 * (F : Int) + 1) 0]).length = n + 1 by rw [List.length_append, HLx.out]; rfl)
      have HR4 := Lib.hid (HR.out.rising (c := cz2) HX10.out HLz.out HS1.out (F : Int))
      have HZf := Lib.hid (show risingS (xs ++ [Vt.mk (3 * (F : Int) + 1) 0]) (F : Int) = false from falls_len (by rw [HLz.out]; omega))
      rw [HZf.out] at HR4
      clear ho2 hg2 hb10
      go_wp2_with fail
      refine HR4.out.mono ?_
      rintro e w11 ⟨rfl, hb11⟩
      have HB11 := Lib.hid (HB10.out.trans (hb11.mono HB10.out.size))
      clear hb11
      go_wp2_with fail
      refine (wakesB_any _).mono ?_
      rintro e w' ⟨rfl, rfl⟩
      go_wp2_with fail
      go_ret
      exact ⟨rfl, HB11.out⟩
end Go.Proofs.Ytkjlbbebgohhiaa
