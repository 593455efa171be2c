/- The law's own row: votes of a quorum, by rising nodes. -/
import Derived.Test.YtallcmknajigfaaRefRising
import Derived.Test.YtallcmknajigfaaWithin
namespace Go.Proofs.Ytallcmknajigfaa
open Go.RowKit

/-- How many are marked. -/
def cnt : List Bool → Nat
  | [] => 0
  | b :: l => (if b then 1 else 0) + cnt l
theorem cnt_set : ∀ {l : List Bool} {k : Nat}, l[k]? = some false → cnt (l.set k true) = cnt l + 1
  | b :: l, 0, h => by
    obtain rfl : b = false := by simpa using h
    simp [cnt]; omega
  | b :: l, k + 1, h => by
    have := cnt_set (l := l) (k := k) (by simpa using h)
    simp only [List.set_cons_succ, cnt, this]; omega
theorem cnt_le : ∀ (l : List Bool), cnt l ≤ l.length
  | [] => Nat.le_refl _
  | b :: l => by
    have := cnt_le l
    simp only [cnt, List.length_cons]
    cases b <;> simp <;> omega
theorem cnt_full : ∀ {l : List Bool}, (∀ k, k < l.length → l[k]? = some true) → cnt l = l.length
  | [], _ => rfl
  | b :: l, h => by
    have h0 := h 0 (by simp)
    obtain rfl : b = true := by simpa using h0
    have := cnt_full (l := l) (fun k hk => by simpa using h (k + 1) (by simpa using hk))
    simp [cnt, this]; omega
theorem cnt_app (l m : List Bool) : cnt (l ++ m) = cnt l + cnt m := by
  induction l with
  | nil => simp [cnt]
  | cons b l ih => simp only [List.cons_append, cnt, ih]; omega
theorem cnt_next {l : List Bool} {k : Nat} {b : Bool} (h : l[k]? = some b) : cnt (l.take (k + 1)) = cnt (l.take k) + (if b then 1 else 0) := by
  rw [List.take_add_one, h, cnt_app]
  simp [cnt]
theorem cnt_mono (l : List Bool) (k n : Nat) (h : k ≤ n) : cnt (l.take k) ≤ cnt (l.take n) := by
  have : l.take k = (l.take n).take k := by rw [List.take_take, Nat.min_eq_left h]
  rw [this]
  have h2 : cnt (l.take n) = cnt ((l.take n).take k) + cnt ((l.take n).drop k) := by rw [← cnt_app, List.take_append_drop]
  omega
def boolCells (l : List Bool) : Array Value := (l.map Value.bool).toArray
theorem boolCells_get {l : List Bool} {k : Nat} {b : Bool} (h : l[k]? = some b) : (boolCells l)[k]? = some (.bool b) := by simp [boolCells, h]
theorem boolCells_set (l : List Bool) (k : Nat) (b : Bool) : (boolCells l).setIfInBounds k (.bool b) = boolCells (l.set k b) := by simp [boolCells, List.map_set]
/-- A row with a last vote more rises still. -/
theorem rises_app {N : Int} {v : Vt} (hv : v.nd < N) : ∀ {l : List Vt} {last : Int}, risesF N last l = true → (∀ x ∈ l, x.nd < v.nd) → last < v.nd → risesF N last (l ++ [v]) = true
  | [], last, _, _, h => by simp [risesF, h, hv]
  | x :: l, last, h, ha, hl => by
    simp only [risesF, Bool.and_eq_true] at h
    have := rises_app hv (l := l) (last := x.nd) h.2 (fun y hy => ha y (by simp [hy])) (ha x (by simp))
    simp only [List.cons_append, risesF, Bool.and_eq_true]
    exact ⟨h.1, this⟩
theorem got {l : List Bool} {k : Nat} (h : k < l.length) : ∃ b, l[k]? = some b := ⟨l[k], List.getElem?_eq_getElem h⟩
theorem info_vote : (Try.prog.info? 38).map (fun i => (i.zero, i.size, i.bytes)) = some (some (.agg #[.int .i64 0, .int .i64 0]), 2, 16) := by kernel_rfl

/-- What holds in the first two loops: so many are left to be marked. -/
structure RowSt (w : World) (f m : Nat) (bs : List Bool) (wr : World) : Prop where
  len : bs.length = 13
  sum : cnt (bs.take (3 * f + 1)) + m = f
  blk : Blk wr w.heap.size 43 (boolCells bs)
  low : Below w.heap.size w wr
theorem RowSt.mark {w wr : World} {f m k : Nat} {bs : List Bool} (h : RowSt w f (m + 1) bs wr) (hk : k < 3 * f + 1) (hb : bs[k]? = some false) : RowSt w f m (bs.set k true) (wr.setCell ⟨w.heap.size, k, none⟩ (.bool true)) := by
  refine ⟨by rw [List.length_set]; exact h.len, ?_, ?_, h.low.setCell (p := ⟨w.heap.size, k, none⟩) (Nat.le_refl _) _⟩
  · rw [List.take_set, cnt_set (by rw [List.getElem?_take, if_pos hk]; exact hb)]
    have := h.sum
    omega
  · have := h.blk.set_ k (.bool true)
    rw [boolCells_set] at this
    exact this
theorem RowSt.done {w wr : World} {f m : Nat} {bs : List Bool} (h : RowSt w f m bs wr) (hf : f ≤ 4) (hall : ∀ q, q < 3 * f + 1 → bs[q]? = some true) : False := by
  have h1 := cnt_full (l := bs.take (3 * f + 1)) (fun k hk => by
    have : k < 3 * f + 1 := by rw [List.length_take] at hk; omega
    rw [List.getElem?_take, if_pos this]; exact hall k this)
  have h2 := h.sum
  have h3 := h.len
  rw [List.length_take] at h1
  omega
/-- What holds in the third loop: the row so far. -/
structure RowOut (w : World) (f j : Nat) (bs : List Bool) (v : Value) (vs : List Vt) (wr : World) : Prop where
  st : RowSt w f 0 bs wr
  own : wr.ownsRow w.heap.size 38 2 v vs.length (voteCells vs)
  rise : risesF (3 * (f : Int) + 1) (-1) vs = true
  less : ∀ x ∈ vs, x.nd < (j : Int)
  many : vs.length + cnt (bs.take j) = j
set_option maxRecDepth 100000 in
set_option maxHeartbeats 4000000 in
theorem row_any {w : World} {A : Option Addr} {c B f : Nat} {zs : List Int} (hf1 : 1 ≤ f) (hf4 : f ≤ 4) (hh : Has w B A (zs.map (Value.int .i64))) (hB : B ≤ w.heap.size) (hfit : ∀ z ∈ zs, (Lit.int .i64 z).wf = true) (hzl : zs.length ≤ maxLen) :
    Calls Try.prog 22 #[.int .i64 f, .slice A zs.length c] w fun e w' => ∃ v vs, e = .returned v ∧ w'.ownsRow w.heap.size 38 2 v vs.length (voteCells vs) ∧ risingS vs f = true ∧ Below w.heap.size w w' := by
  have HH := Lib.hid hh
  have HB := Lib.hid hB
  have HF := Lib.hid hfit
  unfold maxLen at hzl
  have HN := Lib.hid (rnodes_any (f : Int))
  have HQ := Lib.hid (rquorum_any (f : Int))
  rw [nodesS_in (by omega) (by omega)] at HN
  rw [quorumS_in (by omega) (by omega)] at HQ
  clear hh hB hfit
  go_enter Try.func22, Try.ntmps22
  go_wp2_with fail
  refine (HN.out _).mono ?_
  rintro e w' ⟨rfl, rfl⟩
  go_wp2_with fail
  refine (HQ.out _).mono ?_
  rintro e w' ⟨rfl, rfl⟩
  go_wp2_with fail
  have hB0 : Blk (w.alloc (.cells #[.bool false, .bool false, .bool false, .bool false, .bool false, .bool false, .bool false, .bool false, .bool false, .bool false, .bool false, .bool false, .bool false] 43)) w.heap.size 43 (boolCells (List.replicate 13 false)) := Blk.new _ _ _
  have HS0 := Lib.hid (show RowSt w f f (List.replicate 13 false) _ from ⟨by simp, by rcases (show f = 1 ∨ f = 2 ∨ f = 3 ∨ f = 4 by omega) with rfl | rfl | rfl | rfl <;> simp [cnt], hB0, (Below.refl _ _).alloc (Nat.le_refl _) _⟩)
  clear hB0
  go_loopw [7, 8] (fun lf x wr => ∃ (i m : Nat) (bs : List Bool), x = .int .i64 i ∧ lf = .int .i64 m ∧ i ≤ zs.length ∧ m ≤ f ∧ Hid (RowSt w f m bs wr)) (fun _ x _ => zs.length - (intOf x).toNat)
  case atStart => exact ⟨0, f, _, rfl, by go_num, Nat.zero_le _, Nat.le_refl _, HS0.out⟩
  case round =>
    obtain ⟨i, m, bs, rfl, rfl, hi, hm, HS⟩ := hrel
    by_cases hc : i < zs.length ∧ 0 < m
    · obtain ⟨h1, h2⟩ := hc
      obtain ⟨ad, z, rfl, _, hcell, _, hz⟩ := ((HH.out.below HS.out.low HB.out).int h1)
      obtain ⟨k, hk, hkn⟩ : ∃ k : Nat, z % (3 * (f : Int) + 1) = k ∧ k < 3 * f + 1 := ⟨(z % (3 * (f : Int) + 1)).toNat, by have := Int.emod_nonneg z (show 3 * (f : Int) + 1 ≠ 0 by omega); omega, by have := Int.emod_nonneg z (show 3 * (f : Int) + 1 ≠ 0 by omega); have := Int.emod_lt_of_pos z (show 0 < 3 * (f : Int) + 1 by omega); omega⟩
      have HW := Lib.hid (fun w => within_any z (3 * (f : Int) + 1) (by omega) (by omega) (wf_i64 (HF.out z hz)).1 (wf_i64 (HF.out z hz)).2 w)
      rw [hk] at HW
      obtain ⟨b, hb⟩ := got (l := bs) (k := k) (by rw [HS.out.len]; omega)
      have hbc : wr.cell? ⟨w.heap.size, k, none⟩ = some (.bool b) := (HS.out.blk.cell k).trans (boolCells_get hb)
      have hbf := HS.out.blk.frozen k
      have hk13 : k < 13 := by omega
      have HBb := Lib.hid hb
      clear hk hb hz
      go_wp2_with fail
      refine (HW.out _).mono ?_
      rintro e w' ⟨rfl, rfl⟩
      cases b
      · obtain ⟨m1, rfl⟩ : ∃ m1, m = m1 + 1 := ⟨m - 1, by omega⟩
        have HS2 := Lib.hid (HS.out.mark hkn HBb.out)
        go_wp2_with fail
        go_roundw
        case rel => exact ⟨i + 1, m1, _, by go_num, by go_num, by omega, by omega, HS2.out⟩
        case measure => simp [intOf]; omega
      · go_wp2_with fail
        go_roundw
        case rel => exact ⟨i + 1, m, bs, by go_num, rfl, by omega, hm, HS.out⟩
        case measure => simp [intOf]; omega
    · have hor : (i < zs.length ∧ m = 0) ∨ zs.length ≤ i := by omega
      clear hc
      have HX := Lib.hid (show RowSt w f m bs wr ∧ m ≤ f from ⟨HS.out, hm⟩)
      clear HS hm
      rcases hor with ⟨hq1, hq2⟩ | hq1
      all_goals
        go_wp2_with fail
        go_loopw [7, 10] (fun lf x wr => ∃ (j m : Nat) (bs : List Bool), x = .int .i64 ((j : Int) - 1) ∧ lf = .int .i64 m ∧ j ≤ 3 * f + 1 ∧ m ≤ f ∧ Hid (RowSt w f m bs wr) ∧ Hid (∀ q, j ≤ q → q < 3 * f + 1 → bs[q]? = some true)) (fun _ x _ => (intOf x + 1).toNat)
        case atStart => exact ⟨3 * f + 1, m, bs, by go_num, rfl, Nat.le_refl _, HX.out.2, HX.out.1, fun q h1 h2 => absurd h1 (by omega)⟩
        case round =>
          obtain ⟨j, m2, bs2, rfl, rfl, hj, hm2, HS2, HA2⟩ := hrel
          by_cases hc : 0 < j ∧ 0 < m2
          · obtain ⟨h1, h2⟩ := hc
            obtain ⟨k, rfl⟩ : ∃ k, j = k + 1 := ⟨j - 1, by omega⟩
            have hjk : ((k + 1 : Nat) : Int) - 1 = (k : Int) := by omega
            obtain ⟨b, hb⟩ := got (l := bs2) (k := k) (by rw [HS2.out.len]; omega)
            have hbc : wr.cell? ⟨w.heap.size, k, none⟩ = some (.bool b) := (HS2.out.blk.cell k).trans (boolCells_get hb)
            have hbf := HS2.out.blk.frozen k
            have hk13 : k < 13 := by omega
            have HBb := Lib.hid hb
            have hkn : k < 3 * f + 1 := by omega
            clear hb
            rw [hjk]
            cases b
            · obtain ⟨m1, rfl⟩ : ∃ m1, m2 = m1 + 1 := ⟨m2 - 1, by omega⟩
              have HS3 := Lib.hid (HS2.out.mark hkn HBb.out)
              have HA3 := Lib.hid (show ∀ q, k ≤ q → q < 3 * f + 1 → (bs2.set k true)[q]? = some true from fun q h3 h4 => by
                by_cases hqk : k = q
                · subst hqk
                  rw [List.getElem?_set_self (by rw [HS2.out.len]; omega)]
                · rw [List.getElem?_set_ne hqk]
                  exact HA2.out q (by omega) h4)
              go_wp2_with fail
              go_roundw
              case rel => exact ⟨k, m1, _, by go_num, by go_num, by omega, by omega, HS3.out, HA3.out⟩
              case measure => (first | (simp [intOf]; done) | (simp [intOf]; omega))
            · have HA3 := Lib.hid (show ∀ q, k ≤ q → q < 3 * f + 1 → bs2[q]? = some true from fun q h3 h4 => by
                by_cases hqk : k = q
                · subst hqk; exact HBb.out
                · exact HA2.out q (by omega) h4)
              go_wp2_with fail
              go_roundw
              case rel => exact ⟨k, m2, bs2, by go_num, rfl, by omega, hm2, HS2.out, HA3.out⟩
              case measure => (first | (simp [intOf]; done) | (simp [intOf]; omega))
          · have hm0 : m2 = 0 := Classical.byContradiction fun h => HS2.out.done hf4 (fun q hq => HA2.out q (by omega) hq)
            subst hm0
            clear hc
            have hjj : ((j : Int) - 1 < 0) ∨ 0 ≤ (j : Int) - 1 := by omega
            have HS3 := Lib.hid HS2.out
            clear HX HS2 HA2
            rcases hjj with hjj | hjj
            all_goals
              go_wp2_with fail
              go_loopw [11, 12] (fun v x wr => ∃ (q : Nat) (vs : List Vt), x = .int .i64 q ∧ q ≤ 3 * f + 1 ∧ vs.length ≤ q ∧ Hid (RowOut w f q bs2 v vs wr)) (fun _ x _ => 3 * f + 1 - (intOf x).toNat)
              case atStart => exact ⟨0, [], rfl, Nat.zero_le _, Nat.le_refl _, HS3.out, World.ownsRow_nil _ _ _ _, rfl, by simp, by simp [cnt]⟩
              case round =>
                obtain ⟨q, vs, rfl, hq, hvl, HO⟩ := hrel
                by_cases hqn : q < 3 * f + 1
                · obtain ⟨b, hb⟩ := got (l := bs2) (k := q) (by rw [HO.out.st.len]; omega)
                  have hbc : wr.cell? ⟨w.heap.size, q, none⟩ = some (.bool b) := (HO.out.st.blk.cell q).trans (boolCells_get hb)
                  have hq13 : q < 13 := by omega
                  have hcn := cnt_next hb
                  cases b
                  · obtain ⟨i0, hi0, hx0, hx1, hx2⟩ := info_parts info_vote
                    obtain ⟨Av, cv, hv, _, _⟩ := own_slice HO.out.own
                    subst hv
                    have hown := HO.out.own
                    have HSt := Lib.hid HO.out.st
                    have HRi := Lib.hid HO.out.rise
                    have HLe := Lib.hid HO.out.less
                    have HMa := Lib.hid (show vs.length + 1 + cnt (bs2.take (q + 1)) = q + 1 by rw [hcn]; have := HO.out.many; simp; omega)
                    have HNew := Lib.hid (show ∀ j u, [Value.int .i64 q, Value.int .i64 1][j]? = some u → (wr.alloc (.cells #[.int .i64 q, .int .i64 1] 38)).cell? ((⟨wr.heap.size, 0, none⟩ : Addr).add j) = some u from fun j u hj => by
                      obtain ⟨_, he, _, hc⟩ := (Has.fresh wr #[.int .i64 q, .int .i64 1] 38) j u hj
                      cases he
                      exact hc)
                    have HOne := Lib.hid (show ∀ u ∈ [Value.int .i64 q, Value.int .i64 1], u.oneCell' = true from fun u hu => by
                      simp at hu
                      rcases hu with rfl | rfl <;> rfl)
                    have HB3 := Lib.hid (show vs.length + 1 ≤ maxLen by unfold maxLen; omega)
                    have HB4 := Lib.hid (show (vs.length + 1) * 16 ≤ 140737488355328 by omega)
                    have HB5 := Lib.hid (show w.heap.size ≤ (wr.alloc (.cells #[.int .i64 q, .int .i64 1] 38)).heap.size by have := HO.out.st.low.size; simp; omega)
                    clear hcn hb HO
                    go_wp2_with (at_builtin; refine wpList_append_own _ rfl (.tmp 70) (.tmp 73) 34 rfl w.heap.size 38 i0 _ 2 16 Try.underlying34 hi0 hx0 hx1 hx2 rfl (by decide) _ _ _ rfl (hown.alloc _) ⟨wr.heap.size, 0, none⟩ 1 1 [.int .i64 q, .int .i64 1] rfl rfl HNew.out HOne.out HB3.out HB4.out HB5.out ?_)
                    intro v2 w2 ho2 hg2 _
                    have hne : Blk w2 w.heap.size 43 (boolCells bs2) := (HSt.out.blk.alloc _).grown hg2 (fun e => own_blk_ne hown HSt.out.blk (by decide) e.symm)
                    have hlow : Below w.heap.size w w2 := (HSt.out.low.alloc HSt.out.low.size _).grown hg2 HB5.out (fun k hk => (hown.lt k hk).1)
                    have HO2 := Lib.hid (show RowOut w f (q + 1) bs2 v2 (vs ++ [Vt.mk (q : Int) 1]) w2 from
                      ⟨⟨HSt.out.len, HSt.out.sum, hne, hlow⟩, by rw [voteCells_app, List.length_append]; exact ho2, rises_app (by show (q : Int) < _; omega) HRi.out HLe.out (by show (-1 : Int) < (q : Int); omega), fun x hx => by
                        rcases List.mem_append.1 hx with hx | hx
                        · have := HLe.out x hx; omega
                        · rw [List.mem_singleton.1 hx]; show (q : Int) < _; omega, by rw [List.length_append]; exact HMa.out⟩)
                    clear ho2 hg2 hne hlow hown
                    go_wp2_with fail
                    go_roundw
                    case rel => exact ⟨q + 1, vs ++ [Vt.mk (q : Int) 1], by go_num, by omega, by rw [List.length_append]; exact Nat.succ_le_succ hvl, HO2.out⟩
                    case measure => simp [intOf]; omega
                  · have HO2 := Lib.hid (show RowOut w f (q + 1) bs2 _ vs wr from ⟨HO.out.st, HO.out.own, HO.out.rise, fun x hx => by have := HO.out.less x hx; omega, by rw [hcn]; have := HO.out.many; simp; omega⟩)
                    clear hcn
                    go_wp2_with fail
                    go_roundw
                    case rel => exact ⟨q + 1, vs, by go_num, by omega, by omega, HO2.out⟩
                    case measure => simp [intOf]; omega
                · obtain rfl : q = 3 * f + 1 := by omega
                  have HE := Lib.hid (show risingS vs (f : Int) = true by
                    have h1 := HO.out.many
                    have h2 := HO.out.st.sum
                    rw [rising_in (by omega) (by omega) (by omega)]
                    exact HO.out.rise)
                  go_wp2_with fail
                  go_ret
                  exact ⟨_, vs, rfl, HO.out.own, HE.out, HO.out.st.low⟩
end Go.Proofs.Ytallcmknajigfaa
