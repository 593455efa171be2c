/- Package clock: a clock's timers as a function of the id; New, Now, Tick, Set, Drop, Left. -/
import Derived.Test.YtdljbmjjdjbopaaGears
import Derived.Test.YtdljbmjjdjbopaaNotary
import Derived.Maps.OwnSet
import Derived.Lib.Hide
import Derived.Deep.QuietTactic
import Derived.BigQuiet
import Derived.Deep.RegionLaw
import Derived.RegionTactic
namespace Go.Proofs.Ytdljbmjjdjbopaa
open Go.RowKit Go.Maps

/-- The timers: of each id the tick from which it is due, if there is one. -/
abbrev Ts := Int → Option Int
def Ts.new : Ts := fun _ => none
def Ts.set (S : Ts) (p f : Int) : Ts := fun q => if q = p then some f else S q
def Ts.del (S : Ts) (p : Int) : Ts := fun q => if q = p then none else S q
theorem Ts.set_same (S : Ts) (p f : Int) : S.set p f p = some f := if_pos rfl
theorem Ts.set_other (S : Ts) {p q : Int} (h : q ≠ p) (f : Int) : S.set p f q = S q := if_neg h
theorem Ts.del_same (S : Ts) (p : Int) : S.del p p = none := if_pos rfl
theorem Ts.del_other (S : Ts) {p q : Int} (h : q ≠ p) : S.del p q = S q := if_neg h
theorem cint_law : Keyed Try.prog 3 := int_keyed Try.underlying3
theorem cint_key {p : Int} (h : fit p) : keyOf Try.prog 3 (.int .i64 p) = some (.int .i64 p) := keyOf_int_mk Try.underlying3 h
/-- What a map's datum tells. -/
structure Tells (D : DataW Unit) (S : Ts) : Prop where
  has : ∀ p, fit p → Maps.has D (.int .i64 p) = (S p).isSome
  at_ : ∀ p f, S p = some f → ∀ z, D.atKey (.int .i64 p) z = .lit (.int .i64 f)
  fits : ∀ p f, S p = some f → fit p ∧ 0 ≤ f ∧ f ≤ 2097152
theorem Tells.at0 {D : DataW Unit} {S : Ts} (h : Tells D S) {p : Int} (hp : fit p) : D.atKey (.int .i64 p) (.lit (.int .i64 0)) = .lit (.int .i64 ((S p).getD 0)) := by
  cases hS : S p with
  | none => exact atKey_of_not_has (by rw [h.has p hp, hS]; rfl) _
  | some f => exact h.at_ p f hS _
theorem Tells.put {D : DataW Unit} {S : Ts} (h : Tells D S) (hm : IsMap D) {p f : Int} (hp : fit p) (hf : 0 ≤ f ∧ f ≤ 2097152) : Tells (D.put (.int .i64 p) (.lit (.int .i64 f))) (S.set p f) := by
  refine ⟨fun q hq => ?_, fun q g hg z => ?_, fun q g hg => ?_⟩
  · by_cases e : q = p
    · subst e; rw [has_put_same hm (cint_law.key (cint_key hq)), Ts.set_same]; rfl
    · rw [has_put_other (fun he => e (by injection he)), Ts.set_other _ e, h.has q hq]
  · by_cases e : q = p
    · subst e
      rw [Ts.set_same] at hg
      cases hg
      exact atKey_put_same hm (cint_law.key (cint_key hp)) _ _
    · rw [Ts.set_other _ e] at hg
      rw [atKey_put_other (fun he => e (by injection he)), h.at_ q g hg]
  · by_cases e : q = p
    · subst e; rw [Ts.set_same] at hg; cases hg; exact ⟨hp, hf⟩
    · rw [Ts.set_other _ e] at hg; exact h.fits q g hg
theorem Tells.del {D : DataW Unit} {S : Ts} (h : Tells D S) {p : Int} : Tells (D.del (.int .i64 p)) (S.del p) := by
  refine ⟨fun q hq => ?_, fun q g hg z => ?_, fun q g hg => ?_⟩
  · by_cases e : q = p
    · subst e; rw [has_del_same, Ts.del_same]; rfl
    · rw [has_del_other (fun he => e (by injection he)), Ts.del_other _ e, h.has q hq]
  · by_cases e : q = p
    · subst e; rw [Ts.del_same] at hg; cases hg
    · rw [Ts.del_other _ e] at hg
      rw [atKey_del_other (fun he => e (by injection he)), h.at_ q g hg]
  · by_cases e : q = p
    · subst e; rw [Ts.del_same] at hg; cases hg
    · rw [Ts.del_other _ e] at hg; exact h.fits q g hg
/-- The clock in block cb, its timers in block bm. -/
structure Ck (w : World) (cb bm : Nat) (now : Int) (N : Nat) (S : Ts) : Prop where
  blk : Blk w cb 48 #[.int .i64 now, .map (some bm)]
  map : ∃ D, w.ownsMap Try.prog 3 (plainElem Try.prog 3) bm N D ∧ Tells D S
section
variable {w w' : World} {cb bm N : Nat} {now : Int} {S : Ts}
theorem Ck.kept {Z : Nat → Prop} (h : Ck w cb bm now N S) (ht : Turn Z w w') (h1 : ¬ Z cb) (h2 : ¬ Z bm) : Ck w' cb bm now N S := by
  obtain ⟨D, h3, h4⟩ := h.map
  exact ⟨ht.blk h.blk h1, D, ht.map h3 h2, h4⟩
theorem Ck.drewN (h : Ck w cb bm now N S) (n : Nat) : Ck (w.drewN n) cb bm now N S := h.kept ((Turn.refl (fun _ => False) w).drewN n) id id
theorem Ck.below (h : Ck w cb bm now N S) (ht : Below w.heap.size w w') : Ck w' cb bm now N S := h.kept (Turn.of_below (Z := fun _ => False) ht) id id
theorem Ck.lt (h : Ck w cb bm now N S) : cb < w.heap.size ∧ bm < w.heap.size := ⟨h.blk.lt, h.map.elim fun _ h => h.1.lt⟩
theorem Ck.ne (h : Ck w cb bm now N S) : cb ≠ bm := by
  rintro rfl
  obtain ⟨D, ⟨es, clock, hb, _⟩, _⟩ := h.map
  have := h.blk
  unfold Blk at this
  rw [hb] at this
  cases this
theorem Ck.mono (h : Ck w cb bm now N S) {M : Nat} (hM : N ≤ M) : Ck w cb bm now M S := ⟨h.blk, h.map.elim fun D hD => ⟨D, hD.1.mono hM, hD.2⟩⟩
theorem Ck.fits (h : Ck w cb bm now N S) : ∀ p f, S p = some f → fit p ∧ 0 ≤ f ∧ f ≤ 2097152 := h.map.elim fun _ hD => hD.2.fits
theorem czero_int (w : World) : (zeroValue 3).run Try.prog w = .ok (.int .i64 0) w := by kernel_rfl
/-- What a look-up in its map tells. -/
theorem Ck.look (h : Ck w cb bm now N S) {p : Int} (hp : fit p) :
    (Instr.lookup 46 (.map (some bm)) (.int .i64 p) true).run Try.prog w = .ok (.tuple #[.int .i64 ((S p).getD 0), .bool (S p).isSome]) w := by
  obtain ⟨D, h1, h2⟩ := h.map
  obtain ⟨v, ps, hrun, hv⟩ := h1.look_ok cint_law Try.underlying46 (czero_int w) (plainElem_int Try.underlying3 (by decide)) (cint_key hp)
  obtain ⟨c, rfl, hc, _⟩ := plainElem_int_inv Try.underlying3 hv
  rw [h2.has p hp] at hrun
  simp only [Prod.mk.injEq] at hc
  rw [h2.at0 hp] at hc
  have : (S p).getD 0 = c := by injection hc.1 with h4; injection h4
  subst this
  exact hrun
/-- What a store into its map does. -/
theorem Ck.store (h : Ck w cb bm now N S) (hN : N < maxLen) {p f : Int} (hp : fit p) (hf : 0 ≤ f ∧ f ≤ 2097152) :
    ∃ w', (Instr.mapUpdate 46 (.map (some bm)) (.int .i64 p) (.int .i64 f)).run Try.prog w = .ok () w' ∧ Ck w' cb bm now (N + 1) (S.set p f) ∧ Turn (fun k => k = bm) w w' := by
  have hne := h.ne
  have hblk := h.blk
  obtain ⟨D, h1, h2⟩ := h.map
  have hm : IsMap D := (h1.tidy cint_law).isMap
  obtain ⟨w2, hrun, ho, hg⟩ := h1.update cint_law Try.underlying46 hN (cint_key hp) (plainElem_int Try.underlying3 (a := f) (WalkArith.wf_i64 (by omega)))
  have ht : Turn (fun k => k = bm) w w2 := Turn.grown (Turn.refl _ w) hg (fun k hk _ => (Option.some.inj hk).symm)
  exact ⟨w2, hrun, ⟨ht.blk hblk hne, _, ho, h2.put hm hp hf⟩, ht⟩
/-- What a delete does. -/
theorem Ck.drop (h : Ck w cb bm now N S) {p : Int} (hp : fit p) (ty : TypeId) :
    ∃ w', (Builtin.delete_ #[46, 3] ty #[.map (some bm), .int .i64 p]).run Try.prog w = .ok (.tuple #[]) w' ∧ Ck w' cb bm now N (S.del p) ∧ Turn (fun k => k = bm) w w' := by
  have hne := h.ne
  have hblk := h.blk
  obtain ⟨D, h1, h2⟩ := h.map
  obtain ⟨w2, hrun, ho, hg⟩ := h1.drop cint_law Try.underlying46 (cint_key hp) ty
  have ht : Turn (fun k => k = bm) w w2 := Turn.grown (Turn.refl _ w) hg.grown (fun k hk _ => (Option.some.inj hk).symm)
  exact ⟨w2, hrun, ⟨ht.blk hblk hne, _, ho, h2.del⟩, ht⟩
end

set_option maxHeartbeats 400000 in
theorem cnew_any (w : World) : Calls Try.prog 7 #[] w fun e w' => ∃ cb bm, e = .returned (.pointer (some ⟨cb, 0, none⟩)) ∧ Ck w' cb bm 0 0 Ts.new ∧ w.heap.size ≤ cb ∧ w.heap.size ≤ bm ∧ Below w.heap.size w w' := by
  have hmm := @run_makeMap Try.prog
  go_enter Try.func7, Try.ntmps7
  go_wp2_with fail
  go_ret
  have h1 : (w.alloc (.map #[] 0)).heap.size = w.heap.size + 1 := by simp
  refine ⟨_, _, rfl, ⟨Blk.new1 w _ _ _, _, (World.ownsMap_made w _ _ _).alloc _, ⟨fun p _ => rfl, fun p f h => by (cases h), fun p f h => by (cases h)⟩⟩, Nat.le_succ _, Nat.le_refl _, ((Below.refl _ _).alloc (Nat.le_refl _) _).alloc (by rw [h1]; omega) _⟩
theorem now_any {w : World} {cb bm N : Nat} {now : Int} {S : Ts} (h : Ck w cb bm now N S) :
    Calls Try.prog 13 #[.pointer (some ⟨cb, 0, none⟩)] w fun e w' => e = .returned (.int .i64 now) ∧ w = w' := by
  have hcell := h.blk.cell 0
  simp only [List.getElem?_toArray, List.getElem?_cons_zero] at hcell
  clear h
  go_enter Try.func13, Try.ntmps13
  go_wp2
  go_ret
  exact ⟨rfl, rfl⟩
set_option maxHeartbeats 400000 in
theorem tick_any {w : World} {cb bm N : Nat} {now : Int} {S : Ts} (h : Ck w cb bm now N S) (h0 : 0 ≤ now) (h1 : now < 1048576) :
    Calls Try.prog 11 #[.pointer (some ⟨cb, 0, none⟩)] w fun e w' => e = .returned (.bool true) ∧ Ck w' cb bm (now + 1) N S ∧ Turn (fun k => k = cb) w w' := by
  have hfz : w.frozen? ⟨cb, 0, none⟩ = false := h.blk.frozen _
  have hc0 := h.blk.cell 0
  simp only [List.getElem?_toArray, List.getElem?_cons_zero] at hc0
  have HC := Lib.hid h
  have hne : (now == 1048576) = false := by simp; omega
  clear h
  go_enter Try.func11, Try.ntmps11
  go_wp2
  go_ret
  obtain ⟨D, hD, hT⟩ := HC.out.map
  have hn := HC.out.ne
  have ht : Turn (fun k => k = cb) w (w.setCell ⟨cb, 0, none⟩ (.int .i64 (now + 1))) := (Turn.refl _ w).set_ _ _ rfl
  exact ⟨rfl, ⟨HC.out.blk.set_ 0 _, D, ht.map hD (fun e => hn e.symm), hT⟩, ht⟩
theorem tick_last {w : World} {cb bm N : Nat} {now : Int} {S : Ts} (h : Ck w cb bm now N S) (h1 : now = 1048576) :
    Calls Try.prog 11 #[.pointer (some ⟨cb, 0, none⟩)] w fun e w' => e = .returned (.bool false) ∧ w = w' := by
  have hcell := h.blk.cell 0
  simp only [List.getElem?_toArray, List.getElem?_cons_zero] at hcell
  subst h1
  clear h
  go_enter Try.func11, Try.ntmps11
  go_wp2
  go_ret
  exact ⟨rfl, rfl⟩
theorem left_on {w : World} {cb bm N : Nat} {now : Int} {S : Ts} (h : Ck w cb bm now N S) (hn : 0 ≤ now ∧ now ≤ 1048576) {p f : Int} (hp : fit p) (hS : S p = some f) :
    Calls Try.prog 14 #[.pointer (some ⟨cb, 0, none⟩), .int .i64 p] w fun e w' => e = .returned (.tuple #[.int .i64 (max (f - now) 0), .bool true]) ∧ w = w' := by
  have hc0 := h.blk.cell 0
  have hc1 := h.blk.cell 1
  simp only [List.getElem?_toArray, List.getElem?_cons_zero, List.getElem?_cons_succ] at hc0 hc1
  have hl := h.look hp
  rw [hS] at hl
  simp only [Option.getD_some, Option.isSome_some] at hl
  obtain ⟨_, b0, b1⟩ := h.fits p f hS
  have hw : IntKind.i64.wrap (f - now) = f - now := IntWalk.i64_in _ ⟨by omega, by omega⟩
  clear h hS
  go_enter Try.func14, Try.ntmps14
  go_wp2
  all_goals
    go_ret2
    first
      | exact ⟨by rw [Int.max_eq_left (by omega)]; rfl, rfl⟩
      | exact ⟨by rw [Int.max_eq_right (by omega)]; rfl, rfl⟩
theorem left_off {w : World} {cb bm N : Nat} {now : Int} {S : Ts} (h : Ck w cb bm now N S) {p : Int} (hp : fit p) (hS : S p = none) :
    Calls Try.prog 14 #[.pointer (some ⟨cb, 0, none⟩), .int .i64 p] w fun e w' => e = .returned (.tuple #[.int .i64 0, .bool false]) ∧ w = w' := by
  have hc1 := h.blk.cell 1
  simp only [List.getElem?_toArray, List.getElem?_cons_zero, List.getElem?_cons_succ] at hc1
  have hl := h.look hp
  rw [hS] at hl
  simp only [Option.getD_none, Option.isSome_none] at hl
  clear h hS
  go_enter Try.func14, Try.ntmps14
  go_wp2
  go_ret2
  exact ⟨rfl, rfl⟩
set_option maxHeartbeats 400000 in
theorem drop_any {w : World} {cb bm N : Nat} {now : Int} {S : Ts} (h : Ck w cb bm now N S) {p : Int} (hp : fit p) :
    Calls Try.prog 16 #[.pointer (some ⟨cb, 0, none⟩), .int .i64 p] w fun e w' => e = .returned (.bool (S p).isSome) ∧ Ck w' cb bm now N (S.del p) ∧ Turn (fun k => k = bm) w w' := by
  have hc1 := h.blk.cell 1
  simp only [List.getElem?_toArray, List.getElem?_cons_zero, List.getElem?_cons_succ] at hc1
  have hl := h.look hp
  obtain ⟨x, hx⟩ : ∃ x, (S p).getD 0 = x := ⟨_, rfl⟩
  obtain ⟨y, hy⟩ : ∃ y, (S p).isSome = y := ⟨_, rfl⟩
  rw [hx, hy] at hl
  rw [hy]
  have hne := Lib.hid h.ne
  have HC := Lib.hid h
  obtain ⟨D, hD, hT⟩ := h.map
  have HK := Lib.hid (cint_key hp)
  have HD := Lib.hid hD
  have HT := Lib.hid hT
  clear h hp hx hy hD hT
  go_enter Try.func16, Try.ntmps16
  go_wp2_with (first | (at_delete; refine wpList_delete_own _ rfl _ _ 46 3 rfl 3 cint_law Try.underlying46 _ bm N D rfl HD.out _ _ rfl HK.out ?_; intro w1 hown1 hturn1) | fail)
  have HT1 := Lib.hid (show Turn (fun k => k = bm) w w1 from Turn.grown (Turn.refl _ w) hturn1.grown (fun k hk _ => (Option.some.inj hk).symm))
  have HO := Lib.hid hown1
  clear hown1 hturn1
  go_wp2_with fail
  go_ret
  exact ⟨rfl, ⟨HT1.out.blk HC.out.blk hne.out, _, HO.out, HT.out.del⟩, HT1.out⟩
set_option maxHeartbeats 400000 in
theorem set_off {w : World} {cb bm N : Nat} {now : Int} {S : Ts} (_ : Ck w cb bm now N S) {p t : Int} (ht : t < 1 ∨ 1048576 < t) :
    Calls Try.prog 10 #[.pointer (some ⟨cb, 0, none⟩), .int .i64 p, .int .i64 t] w fun e w' => e = .returned (.bool false) ∧ w = w' := by
  by_cases h1 : t < 1
  · clear ht
    go_enter Try.func10, Try.ntmps10
    go_wp2
    go_ret
    exact ⟨rfl, rfl⟩
  · have h2 : 1048576 < t := by omega
    clear ht
    go_enter Try.func10, Try.ntmps10
    go_wp2
    go_ret
    exact ⟨rfl, rfl⟩
set_option maxHeartbeats 400000 in
theorem set_on {w : World} {cb bm N : Nat} {now : Int} {S : Ts} (h : Ck w cb bm now N S) (hN : N < maxLen) (hn : 0 ≤ now ∧ now ≤ 1048576) {p t : Int} (hp : fit p) (h1 : 1 ≤ t) (h2 : t ≤ 1048576) :
    Calls Try.prog 10 #[.pointer (some ⟨cb, 0, none⟩), .int .i64 p, .int .i64 t] w fun e w' => e = .returned (.bool true) ∧ Ck w' cb bm now (N + 1) (S.set p (now + t)) ∧ Turn (fun k => k = bm) w w' := by
  have hc0 := h.blk.cell 0
  have hc1 := h.blk.cell 1
  simp only [List.getElem?_toArray, List.getElem?_cons_zero, List.getElem?_cons_succ] at hc0 hc1
  have h3 : ¬ t < 1 := by omega
  have h4 : ¬ 1048576 < t := by omega
  have hw : IntKind.i64.wrap (now + t) = now + t := IntWalk.i64_in _ ⟨by omega, by omega⟩
  obtain ⟨w2, hrun, hc2, ht2⟩ := (show Ck w.drew cb bm now N S from h.drewN 1).store hN hp (f := now + t) (by omega)
  have HR := Lib.hid hc2
  have HT := Lib.hid (show Turn (fun k => k = bm) w w2 from ⟨ht2.os, ht2.tape, ht2.output, ht2.size, ht2.block⟩)
  clear h hN hp hc2 ht2 hn
  go_enter Try.func10, Try.ntmps10
  go_wp2_with fail
  go_region
  go_wp2_with fail
  go_ret
  exact ⟨rfl, HR.out, HT.out⟩
end Go.Proofs.Ytdljbmjjdjbopaa
