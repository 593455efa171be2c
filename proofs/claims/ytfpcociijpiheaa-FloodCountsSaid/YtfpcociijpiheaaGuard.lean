/- Package flood: a guard's records as a function of the party; New, Bad, Shut, Count. -/
import Derived.Test.YtfpcociijpiheaaGears
import Derived.Test.YtfpcociijpiheaaNotary
import Derived.Maps.OwnSet
import Derived.Lib.Hide
import Derived.Deep.QuietTactic
import Derived.BigQuiet
import Derived.Deep.RegionLaw
import Derived.RegionTactic
namespace Go.Proofs.Ytfpcociijpiheaa
open Go.RowKit Go.Maps

/-- What a guard knows: of each party its count and the time until which it is shut out. -/
abbrev Gs := Int → Int × Int
def recD (r : Int × Int) : DataW Unit := .agg [.lit (.int .i64 r.1), .lit (.int .i64 r.2)]
def recElem (v : Value) : Option (DataW Unit × List MemPlace) :=
  match v with
  | .agg cs => match cs.toList with
    | [.int .i64 a, .int .i64 b] => if (Lit.int .i64 a).wf = true ∧ (Lit.int .i64 b).wf = true then some (recD (a, b), []) else none
    | _ => none
  | _ => none
theorem recElem_mk {a b : Int} (ha : fit a) (hb : fit b) : recElem (.agg #[.int .i64 a, .int .i64 b]) = some (recD (a, b), []) := by
  unfold fit at ha hb
  simp [recElem, ha, hb]
theorem recElem_inv {v : Value} {z : DataW Unit × List MemPlace} (h : recElem v = some z) : ∃ a b, v = .agg #[.int .i64 a, .int .i64 b] ∧ z = (recD (a, b), []) ∧ fit a ∧ fit b := by
  unfold recElem at h
  split at h
  · rename_i cs
    split at h
    · rename_i a b hc
      split at h
      · rename_i hw
        cases h
        refine ⟨a, b, ?_, rfl, hw.1, hw.2⟩
        rw [← Array.toArray_toList (xs := cs), hc]
      · cases h
    · cases h
  · cases h
theorem recD_inj {r s : Int × Int} (h : recD r = recD s) : r = s := by
  unfold recD at h
  injection h with h
  injection h with h1 h2
  injection h2 with h2
  injection h1 with h1
  injection h1 with _ h1
  injection h2 with h2
  injection h2 with _ h2
  exact Prod.ext h1 h2
theorem int_law : Keyed Try.prog 3 := int_keyed Try.underlying3
theorem int_key {p : Int} (h : fit p) : keyOf Try.prog 3 (.int .i64 p) = some (.int .i64 p) := keyOf_int_mk Try.underlying3 h
/-- The guard in block gb, its map in block bm. -/
structure Gd (w : World) (gb bm : Nat) (m t : Int) (N : Nat) (S : Gs) : Prop where
  blk : Blk w gb 35 #[.int .i64 m, .int .i64 t, .map (some bm)]
  map : ∃ D, w.ownsMap Try.prog 3 recElem bm N D ∧ ∀ p, fit p → D.atKey (.int .i64 p) (recD (0, 0)) = recD (S p)
def Gs.new : Gs := fun _ => (0, 0)
def Gs.set (S : Gs) (p : Int) (r : Int × Int) : Gs := fun q => if q = p then r else S q
theorem Gs.set_same (S : Gs) (p : Int) (r : Int × Int) : S.set p r p = r := if_pos rfl
theorem Gs.set_other (S : Gs) {p q : Int} (h : q ≠ p) (r : Int × Int) : S.set p r q = S q := if_neg h
section
variable {w w' : World} {gb bm N : Nat} {m t : Int} {S : Gs}
theorem Gd.kept {Z : Nat → Prop} (h : Gd w gb bm m t N S) (ht : Turn Z w w') (h1 : ¬ Z gb) (h2 : ¬ Z bm) : Gd w' gb bm m t N S := by
  obtain ⟨D, h3, h4⟩ := h.map
  exact ⟨ht.blk h.blk h1, D, ht.map h3 h2, h4⟩
theorem Gd.drewN (h : Gd w gb bm m t N S) (n : Nat) : Gd (w.drewN n) gb bm m t N S := h.kept ((Turn.refl (fun _ => False) w).drewN n) id id
theorem Gd.below (h : Gd w gb bm m t N S) (ht : Below w.heap.size w w') : Gd w' gb bm m t N S := h.kept (Turn.of_below (Z := fun _ => False) ht) id id
theorem Gd.lt (h : Gd w gb bm m t N S) : gb < w.heap.size ∧ bm < w.heap.size := ⟨h.blk.lt, h.map.elim fun _ h => h.1.lt⟩
theorem Gd.ne (h : Gd w gb bm m t N S) : gb ≠ bm := by
  rintro rfl
  obtain ⟨D, ⟨es, clock, hb, _⟩, _⟩ := h.map
  have := h.blk
  unfold Blk at this
  rw [hb] at this
  cases this
theorem zero_rec (w : World) : (zeroValue 37).run Try.prog w = .ok (.agg #[.int .i64 0, .int .i64 0]) w := by kernel_rfl
theorem rec_at0 (a b : Int) (w : World) : (Instr.field 37 (.agg #[.int .i64 a, .int .i64 b]) 0).run Try.prog w = .ok (.int .i64 a) w := by kernel_rfl
theorem rec_at1 (a b : Int) (w : World) : (Instr.field 37 (.agg #[.int .i64 a, .int .i64 b]) 1).run Try.prog w = .ok (.int .i64 b) w := by kernel_rfl
/-- What a look-up in its map tells. -/
theorem Gd.look (h : Gd w gb bm m t N S) {p : Int} (hp : fit p) :
    (Instr.lookup 33 (.map (some bm)) (.int .i64 p) false).run Try.prog w = .ok (.agg #[.int .i64 (S p).1, .int .i64 (S p).2]) w ∧ fit (S p).1 ∧ fit (S p).2 := by
  obtain ⟨D, h1, h2⟩ := h.map
  obtain ⟨v, ps, hrun, hv⟩ := h1.lookup int_law Try.underlying33 (zero_rec w) (recElem_mk (a := 0) (b := 0) (by unfold fit; decide) (by unfold fit; decide)) (int_key hp)
  obtain ⟨a, b, rfl, hc, ha, hb⟩ := recElem_inv hv
  simp only [Prod.mk.injEq] at hc
  rw [h2 p hp] at hc
  have := recD_inj hc.1
  rw [this]
  exact ⟨hrun, ha, hb⟩
/-- What a store into its map does. -/
theorem Gd.store (h : Gd w gb bm m t N S) (hN : N < maxLen) {p a b : Int} (hp : fit p) (ha : fit a) (hb : fit b) :
    ∃ w', (Instr.mapUpdate 33 (.map (some bm)) (.int .i64 p) (.agg #[.int .i64 a, .int .i64 b])).run Try.prog w = .ok () w' ∧ Gd w' gb bm m t (N + 1) (S.set p (a, b)) ∧ Turn (fun k => k = bm) w w' := by
  have hne := h.ne
  have hblk := h.blk
  obtain ⟨D, h1, h2⟩ := h.map
  have hm : IsMap D := (h1.tidy int_law).isMap
  obtain ⟨w2, hrun, ho, hg⟩ := h1.update int_law Try.underlying33 hN (int_key hp) (recElem_mk ha hb)
  have ht : Turn (fun k => k = bm) w w2 := Turn.grown (Turn.refl _ w) hg (fun k hk _ => (Option.some.inj hk).symm)
  refine ⟨w2, hrun, ⟨ht.blk hblk hne, _, ho, fun q hq => ?_⟩, ht⟩
  by_cases e : q = p
  · subst e
    rw [atKey_put_same hm (int_law.key (int_key hq)), Gs.set_same]
  · rw [atKey_put_other (fun he => e (by injection he)), h2 q hq, Gs.set_other _ e]
end

def near (c : Int) : Int := if c < 0 then 0 else if 1048576 < c then 1048576 else c
theorem near_in (c : Int) : 0 ≤ near c ∧ near c ≤ 1048576 := by unfold near; split <;> (try split) <;> omega
theorem near_any {c : Int} (hc : fit c) (w : World) : Calls Try.prog 12 #[.int .i64 c] w fun e w' => e = .returned (.int .i64 (near c)) ∧ w = w' := by
  obtain ⟨b0, b1⟩ := wf_i64 hc
  by_cases h1 : c < 0
  · have HN := Lib.hid (show near c = 0 by unfold near; rw [if_pos h1])
    rw [HN.out]
    go_enter Try.func12, Try.ntmps12
    go_wp2
    go_ret
    exact ⟨rfl, rfl⟩
  by_cases h2 : 1048576 < c
  · have HN := Lib.hid (show near c = 1048576 by unfold near; rw [if_neg h1, if_pos h2])
    rw [HN.out]
    go_enter Try.func12, Try.ntmps12
    go_wp2
    go_ret
    exact ⟨rfl, rfl⟩
  · have HN := Lib.hid (show near c = c by unfold near; rw [if_neg h1, if_neg h2])
    rw [HN.out]
    go_enter Try.func12, Try.ntmps12
    go_wp2
    go_ret
    exact ⟨rfl, rfl⟩
def allowed (n : Int) : Bool := decide (1 ≤ n ∧ n ≤ 64)
theorem allowed_any (n : Int) (w : World) : Calls Try.prog 11 #[.int .i64 n] w fun e w' => e = .returned (.bool (allowed n)) ∧ w = w' := by
  have HN := Lib.hid (show allowed n = (decide (1 ≤ n) && decide (n ≤ 64)) by unfold allowed; rw [Bool.eq_iff_iff]; simp)
  rw [HN.out]
  by_cases h : 1 ≤ n
  · go_enter Try.func11, Try.ntmps11
    go_wp2
    go_ret
    simp [h]
  · go_enter Try.func11, Try.ntmps11
    go_wp2
    go_ret
    simp
    omega
set_option maxHeartbeats 400000 in
theorem gnew_any {m t : Int} (h1 : 1 ≤ m ∧ m ≤ 64) (h2 : 1 ≤ t ∧ t ≤ 64) (w : World) : Calls Try.prog 6 #[.int .i64 m, .int .i64 t] w fun e w' => ∃ gb bm, e = .returned (.tuple #[.pointer (some ⟨gb, 0, none⟩), .int .i64 0]) ∧ Gd w' gb bm m t 0 Gs.new ∧ w.heap.size ≤ gb ∧ w.heap.size ≤ bm ∧ Below w.heap.size w w' := by
  have hmm := @run_makeMap Try.prog
  have HA := Lib.hid (fun w => allowed_any m w)
  have HB := Lib.hid (fun w => allowed_any t w)
  rw [show allowed m = true from decide_eq_true h1] at HA
  rw [show allowed t = true from decide_eq_true h2] at HB
  clear h1 h2
  go_enter Try.func6, Try.ntmps6
  go_wp2_with fail
  refine (HA.out _).mono ?_
  rintro e w1 ⟨rfl, rfl⟩
  go_wp2_with fail
  refine (HB.out _).mono ?_
  rintro e w1 ⟨rfl, rfl⟩
  go_wp2_with fail
  go_ret2
  have h1 : (w.alloc (.map #[] 0)).heap.size = w.heap.size + 1 := by simp
  refine ⟨_, _, rfl, ⟨Blk.new1 w _ _ _, _, (World.ownsMap_made w _ _ _).alloc _, fun p _ => rfl⟩, Nat.le_succ _, Nat.le_refl _, ((Below.refl _ _).alloc (Nat.le_refl _) _).alloc (by rw [h1]; omega) _⟩
theorem count_any {w : World} {gb bm N : Nat} {m t : Int} {S : Gs} (h : Gd w gb bm m t N S) {p : Int} (hp : fit p) :
    Calls Try.prog 8 #[.pointer (some ⟨gb, 0, none⟩), .int .i64 p] w fun e w' => e = .returned (.int .i64 (S p).1) ∧ w = w' := by
  have hcell := h.blk.cell 2
  simp only [List.getElem?_toArray, List.getElem?_cons_zero, List.getElem?_cons_succ] at hcell
  obtain ⟨hl, _, _⟩ := h.look hp
  have hf := rec_at0 (S p).1 (S p).2 w
  clear h
  go_enter Try.func8, Try.ntmps8
  go_wp2
  go_ret
  exact ⟨rfl, rfl⟩
set_option maxHeartbeats 400000 in
theorem shut_any {w : World} {gb bm N : Nat} {m t : Int} {S : Gs} (h : Gd w gb bm m t N S) {p c : Int} (hp : fit p) (hc : fit c) :
    Calls Try.prog 9 #[.pointer (some ⟨gb, 0, none⟩), .int .i64 p, .int .i64 c] w fun e w' => e = .returned (.bool (decide (near c < (S p).2))) ∧ ∃ n, w' = w.drewN n := by
  have hcell := fun k => (h.drewN k).blk.cell 2
  simp only [List.getElem?_toArray, List.getElem?_cons_zero, List.getElem?_cons_succ] at hcell
  have hl := fun k => ((h.drewN k).look hp).1
  have HN := Lib.hid (fun w => (near_any hc w).mono (R' := fun e w' => e = .returned (.int .i64 (near c)) ∧ w' = w) (fun e w' he => ⟨he.1, he.2.symm⟩))
  have hf := fun k => rec_at1 (S p).1 (S p).2 (w.drewN k)
  obtain ⟨x, hx⟩ : ∃ x, near c = x := ⟨_, rfl⟩
  rw [hx] at HN ⊢
  clear h hx hc hp
  go_enter Try.func9, Try.ntmps9
  go_wp2
  go_quiet ((go_at_call 12; exact Calls.quiet_of_same (HN.out _)))
  go_wp2
  go_ret
  exact ⟨rfl, _, rfl⟩
/-- What a bad message makes of a record. -/
def badS (m t c : Int) (r : Int × Int) : Int × Int := if m < r.1 + 1 then (0, near c + t) else (r.1 + 1, r.2)
set_option linter.unusedVariables false in
set_option maxHeartbeats 400000 in
theorem bad_any {w : World} {gb bm N : Nat} {m t : Int} {S : Gs} (h : Gd w gb bm m t N S) (hN : N < maxLen) (hm : 1 ≤ m ∧ m ≤ 64) (ht : 1 ≤ t ∧ t ≤ 64) {p c : Int} (hp : fit p) (hc : fit c) (h0 : 0 ≤ (S p).1 ∧ (S p).1 ≤ 64) :
    Calls Try.prog 7 #[.pointer (some ⟨gb, 0, none⟩), .int .i64 p, .int .i64 c] w fun e w' => e = .returned (.bool (decide (m < (S p).1 + 1))) ∧ Gd w' gb bm m t (N + 1) (S.set p (badS m t c (S p))) ∧ Turn (fun k => k = bm) w w' := by
  have HC := Lib.hid h
  have HP := Lib.hid hp
  have hcell := h.blk.cell 2
  simp only [List.getElem?_toArray, List.getElem?_cons_zero, List.getElem?_cons_succ] at hcell
  obtain ⟨hl, _, hu⟩ := h.look hp
  have HU := Lib.hid hu
  obtain ⟨x, hx⟩ : ∃ x, (S p).1 = x := ⟨_, rfl⟩
  obtain ⟨u, hu2⟩ : ∃ u, (S p).2 = u := ⟨_, rfl⟩
  rw [hx, hu2] at hl
  rw [hu2] at HU
  rw [hx] at h0
  have HS := Lib.hid (show S p = (x, u) from Prod.ext hx hu2)
  rw [HS.out]
  obtain ⟨c0, c1⟩ := near_in c
  have HM := Lib.hid hN
  clear h hx hu2 hu hp hN
  go_enter Try.func7, Try.ntmps7
  go_wp2_with fail
  have HB1 := Lib.hid (HC.out.below ((Below.refl _ w).alloc (Nat.le_refl _) (.cells #[.int .i64 (x + 1), .int .i64 u] 37)))
  have hc0 := HB1.out.blk.cell 0
  have hc1 := HB1.out.blk.cell 1
  have hc2 := HB1.out.blk.cell 2
  simp only [List.getElem?_toArray, List.getElem?_cons_zero, List.getElem?_cons_succ] at hc0 hc1 hc2
  clear hl hcell
  go_quiet (fail)
  have HNq := Lib.hid (fun w => (near_any hc w).mono (R' := fun e w' => e = .returned (.int .i64 (near c)) ∧ w = w') (fun e w' he => he))
  obtain ⟨y, hy⟩ : ∃ y, near c = y := ⟨_, rfl⟩
  rw [hy] at HNq c0 c1
  by_cases hcase : m < x + 1
  · have HD := Lib.hid (show badS m t c (x, u) = (0, y + t) by rw [← hy]; exact if_pos hcase)
    have hw : IntKind.i64.wrap (y + t) = y + t := IntWalk.i64_in _ ⟨by omega, by omega⟩
    have hlt := HC.out.lt
    go_wp2_with fail
    go_region_law (go_simp; go_at_call 12; refine (HNq.out _).mono ?_; rintro e w1 ⟨rfl, rfl⟩)
    all_goals
      go_wp2_with fail
      have hb0 := Blk.new w 37 #[.int .i64 (x + 1), .int .i64 u]
      have hlt := HC.out.lt
      have HB2 := Lib.hid (show Blk ((((w.alloc (.cells #[.int .i64 (x + 1), .int .i64 u] 37)).drewN (nq + 1)).setCell ⟨w.heap.size, 0, none⟩ (.int .i64 0)).setCell ⟨w.heap.size, 1, none⟩ (.int .i64 (y + t))) w.heap.size 37 #[.int .i64 0, .int .i64 (y + t)] from ((hb0.drewN (nq + 1)).set_ 0 (.int .i64 0)).set_ 1 (.int .i64 (y + t)))
      have HT3 := Lib.hid (show Turn (fun k => k = bm ∨ w.heap.size ≤ k) w ((((w.alloc (.cells #[.int .i64 (x + 1), .int .i64 u] 37)).drewN (nq + 1)).setCell ⟨w.heap.size, 0, none⟩ (.int .i64 0)).setCell ⟨w.heap.size, 1, none⟩ (.int .i64 (y + t))) from (((((Turn.refl (fun k => k = bm ∨ w.heap.size ≤ k) w).alloc (.cells #[.int .i64 (x + 1), .int .i64 u] 37)).drewN (nq + 1)).set_ ⟨w.heap.size, 0, none⟩ (.int .i64 0) (Or.inr (Nat.le_refl _))).set_ ⟨w.heap.size, 1, none⟩ (.int .i64 (y + t)) (Or.inr (Nat.le_refl _))))
      have HG2 := Lib.hid (show Gd ((((w.alloc (.cells #[.int .i64 (x + 1), .int .i64 u] 37)).drewN (nq + 1)).setCell ⟨w.heap.size, 0, none⟩ (.int .i64 0)).setCell ⟨w.heap.size, 1, none⟩ (.int .i64 (y + t))) gb bm m t N S from HB1.out.kept ((((Turn.refl (fun k => k = w.heap.size) (w.alloc (.cells #[.int .i64 (x + 1), .int .i64 u] 37))).drewN (nq + 1)).set_ ⟨w.heap.size, 0, none⟩ (.int .i64 0) rfl).set_ ⟨w.heap.size, 1, none⟩ (.int .i64 (y + t)) rfl) (by omega) (by omega))
      generalize hW : ((((w.alloc (.cells #[.int .i64 (x + 1), .int .i64 u] 37)).drewN (nq + 1)).setCell ⟨w.heap.size, 0, none⟩ (.int .i64 0)).setCell ⟨w.heap.size, 1, none⟩ (.int .i64 (y + t))) = W at *
      have hcm := HG2.out.blk.cell 2
      have hr0 := HB2.out.cell 0
      have hr1 := HB2.out.cell 1
      simp only [List.getElem?_toArray, List.getElem?_cons_zero, List.getElem?_cons_succ] at hcm hr0 hr1
      obtain ⟨w2, hrun, hg2, ht2⟩ := (show Gd W.drew gb bm m t N S from HG2.out.drewN 1).store HM.out HP.out (a := 0) (b := (y + t)) (by unfold fit; decide) (WalkArith.wf_i64 (by omega))
      have HR := Lib.hid hg2
      have HT := Lib.hid (((HT3.out.drewN 1).trans ((show Turn (fun k => k = bm) (W.drewN 1) w2 from ht2).mono (Z' := fun k => k = bm ∨ w.heap.size ≤ k) (fun k _ h => Or.inl h))).mono (Z' := fun k => k = bm) (fun k hk h => h.elim id (fun h => absurd h (by omega))))
      clear HG2 HB2 HT3 ht2 hg2 hW
      go_region
      go_wp2_with fail
      go_ret
      rw [HD.out]
      exact ⟨by first | rfl | (simp; done) | (simp; omega), HR.out, HT.out⟩
  · have HD := Lib.hid (show badS m t c (x, u) = (x + 1, u) from if_neg hcase)
    have hlt := HC.out.lt
    go_wp2_with fail
    have hb0 := Blk.new w 37 #[.int .i64 (x + 1), .int .i64 u]
    have hlt := HC.out.lt
    have HB2 := Lib.hid (show Blk ((w.alloc (.cells #[.int .i64 (x + 1), .int .i64 u] 37)).drewN nq) w.heap.size 37 #[.int .i64 (x + 1), .int .i64 u] from hb0.drewN nq)
    have HT3 := Lib.hid (show Turn (fun k => k = bm ∨ w.heap.size ≤ k) w ((w.alloc (.cells #[.int .i64 (x + 1), .int .i64 u] 37)).drewN nq) from ((Turn.refl (fun k => k = bm ∨ w.heap.size ≤ k) w).alloc (.cells #[.int .i64 (x + 1), .int .i64 u] 37)).drewN nq)
    have HG2 := Lib.hid (show Gd ((w.alloc (.cells #[.int .i64 (x + 1), .int .i64 u] 37)).drewN nq) gb bm m t N S from HB1.out.drewN nq)
    generalize hW : ((w.alloc (.cells #[.int .i64 (x + 1), .int .i64 u] 37)).drewN nq) = W at *
    have hcm := HG2.out.blk.cell 2
    have hr0 := HB2.out.cell 0
    have hr1 := HB2.out.cell 1
    simp only [List.getElem?_toArray, List.getElem?_cons_zero, List.getElem?_cons_succ] at hcm hr0 hr1
    obtain ⟨w2, hrun, hg2, ht2⟩ := (show Gd W.drew gb bm m t N S from HG2.out.drewN 1).store HM.out HP.out (a := (x + 1)) (b := u) (WalkArith.wf_i64 (by omega)) HU.out
    have HR := Lib.hid hg2
    have HT := Lib.hid (((HT3.out.drewN 1).trans ((show Turn (fun k => k = bm) (W.drewN 1) w2 from ht2).mono (Z' := fun k => k = bm ∨ w.heap.size ≤ k) (fun k _ h => Or.inl h))).mono (Z' := fun k => k = bm) (fun k hk h => h.elim id (fun h => absurd h (by omega))))
    clear HG2 HB2 HT3 ht2 hg2 hW
    go_region
    go_wp2_with fail
    go_ret
    rw [HD.out]
    exact ⟨by first | rfl | (simp; done) | (simp; omega), HR.out, HT.out⟩
section
variable {w : World} {gb bm N : Nat} {m t : Int} {S : Gs} {p c x u : Int}
theorem near_same {c : Int} (h : 0 ≤ c ∧ c ≤ 1048576) : near c = c := by unfold near; rw [if_neg (by omega), if_neg (by omega)]
theorem bad_on (h : Gd w gb bm m t N S) (hN : N < maxLen) (hm : 1 ≤ m ∧ m ≤ 64) (ht : 1 ≤ t ∧ t ≤ 64) (hp : fit p) (hc : fit c) (hS : S p = (x, u)) (h0 : 0 ≤ x ∧ x ≤ 64) (hy : m < x + 1) :
    Calls Try.prog 7 #[.pointer (some ⟨gb, 0, none⟩), .int .i64 p, .int .i64 c] w fun e w' => e = .returned (.bool true) ∧ Gd w' gb bm m t (N + 1) (S.set p (0, near c + t)) ∧ Turn (fun k => k = bm) w w' :=
  (bad_any h hN hm ht hp hc (by rw [hS]; exact h0)).mono fun e w' he => by
    rw [hS, show badS m t c (x, u) = (0, near c + t) from if_pos hy, show decide (m < (x, u).1 + 1) = true from decide_eq_true hy] at he
    exact he
theorem bad_off (h : Gd w gb bm m t N S) (hN : N < maxLen) (hm : 1 ≤ m ∧ m ≤ 64) (ht : 1 ≤ t ∧ t ≤ 64) (hp : fit p) (hc : fit c) (hS : S p = (x, u)) (h0 : 0 ≤ x ∧ x ≤ 64) (hy : ¬ m < x + 1) :
    Calls Try.prog 7 #[.pointer (some ⟨gb, 0, none⟩), .int .i64 p, .int .i64 c] w fun e w' => e = .returned (.bool false) ∧ Gd w' gb bm m t (N + 1) (S.set p (x + 1, u)) ∧ Turn (fun k => k = bm) w w' :=
  (bad_any h hN hm ht hp hc (by rw [hS]; exact h0)).mono fun e w' he => by
    rw [hS, show badS m t c (x, u) = (x + 1, u) from if_neg hy, show decide (m < (x, u).1 + 1) = false from decide_eq_false hy] at he
    exact he
theorem count_on (h : Gd w gb bm m t N S) (hp : fit p) (hS : S p = (x, u)) :
    Calls Try.prog 8 #[.pointer (some ⟨gb, 0, none⟩), .int .i64 p] w fun e w' => e = .returned (.int .i64 x) ∧ w = w' :=
  (count_any h hp).mono fun e w' he => by rw [hS] at he; exact he
theorem shut_on (h : Gd w gb bm m t N S) (hp : fit p) (hc : fit c) (hS : S p = (x, u)) (hy : near c < u) :
    Calls Try.prog 9 #[.pointer (some ⟨gb, 0, none⟩), .int .i64 p, .int .i64 c] w fun e w' => e = .returned (.bool true) ∧ Gd w' gb bm m t N S ∧ Below w.heap.size w w' :=
  (shut_any h hp hc).mono fun e w' ⟨he, n, hw⟩ => by
    rw [hS, show decide (near c < (x, u).2) = true from decide_eq_true hy] at he
    subst hw
    exact ⟨he, h.drewN n, ⟨rfl, rfl, rfl, Nat.le_refl _, fun _ _ => rfl⟩⟩
theorem shut_off (h : Gd w gb bm m t N S) (hp : fit p) (hc : fit c) (hS : S p = (x, u)) (hy : ¬ near c < u) :
    Calls Try.prog 9 #[.pointer (some ⟨gb, 0, none⟩), .int .i64 p, .int .i64 c] w fun e w' => e = .returned (.bool false) ∧ Gd w' gb bm m t N S ∧ Below w.heap.size w w' :=
  (shut_any h hp hc).mono fun e w' ⟨he, n, hw⟩ => by
    rw [hS, show decide (near c < (x, u).2) = false from decide_eq_false hy] at he
    subst hw
    exact ⟨he, h.drewN n, ⟨rfl, rfl, rfl, Nat.le_refl _, fun _ _ => rfl⟩⟩
end
theorem fit_of {z : Int} (h0 : -1000000000000000 ≤ z) (h1 : z ≤ 1000000000000000) : fit z := WalkArith.wf_i64 (by omega)
set_option maxHeartbeats 1000000 in
theorem wakes8_any (w : World) : Calls Try.prog 10 #[] w fun e w' => e = .returned (.bool true) ∧ Below w.heap.size w w' := by
  have f2 : fit 2 := fit_of (by omega) (by omega)
  have f3 : fit 3 := fit_of (by omega) (by omega)
  have f7 : fit 7 := fit_of (by omega) (by omega)
  have f8 : fit 8 := fit_of (by omega) (by omega)
  have hmx : 1 < maxLen := by unfold maxLen; omega
  go_enter Try.func10, Try.ntmps10
  go_wp2_with fail
  refine (gnew_any (m := 1) (t := 5) (by omega) (by omega) _).mono ?_
  rintro e w1 ⟨gb, bm, rfl, hG, h1, h2, hb⟩
  have HZ := Lib.hid (show ∀ k, k < w.heap.size → ¬ k = bm from fun k hk he => by omega)
  have HB := Lib.hid hb
  have HG := Lib.hid hG
  clear hb hG h1 h2
  go_wp2_with fail
  refine (bad_off HG.out (by omega) (by omega) (by omega) f2 f3 (x := 0) (u := 0) rfl (by omega) (by omega)).mono ?_
  rintro e w2 ⟨rfl, hG2, ht2⟩
  have HB2 := Lib.hid (HB.out.trans (ht2.below HB.out.size HZ.out))
  have HG2 := Lib.hid hG2
  clear hG2 ht2
  go_wp2_with fail
  refine (bad_on HG2.out hmx (by omega) (by omega) f2 f3 (x := 1) (u := 0) (Gs.set_same _ _ _) (by omega) (by omega)).mono ?_
  rintro e w3 ⟨rfl, hG3, ht3⟩
  have HB3 := Lib.hid (HB2.out.trans (ht3.below HB2.out.size HZ.out))
  have HG3 := Lib.hid hG3
  clear hG3 ht3
  go_wp2_with fail
  refine (shut_on HG3.out f2 f7 (Gs.set_same _ _ _) (by decide)).mono ?_
  rintro e w4 ⟨rfl, hG4, hb4⟩
  have HB4 := Lib.hid (HB3.out.trans (hb4.mono HB3.out.size))
  have HG4 := Lib.hid hG4
  clear hG4 hb4
  go_wp2_with fail
  refine (shut_off HG4.out f2 f8 (Gs.set_same _ _ _) (by decide)).mono ?_
  rintro e w5 ⟨rfl, hG5, hb5⟩
  have HB5 := Lib.hid (HB4.out.trans (hb5.mono HB4.out.size))
  clear hG5 hb5
  go_wp2_with fail
  go_ret
  exact ⟨rfl, HB5.out⟩
end Go.Proofs.Ytfpcociijpiheaa
