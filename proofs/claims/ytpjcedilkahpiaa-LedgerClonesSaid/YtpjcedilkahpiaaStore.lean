/- Package store: a store's values as a function of the key; New, Get, add, Apply. -/
import Derived.Test.YtpjcedilkahpiaaStoreMath
import Derived.Test.YtpjcedilkahpiaaGears
import Derived.Test.YtpjcedilkahpiaaNotary
import Derived.Maps.OwnSet
import Derived.Lib.Hide
import Derived.Deep.QuietTactic
import Derived.BigQuiet
import Derived.Deep.RegionLaw
import Derived.RegionTactic
namespace Go.Proofs.Ytpjcedilkahpiaa
open Go.RowKit Go.Maps

theorem kint_law : Keyed Try.prog 3 := int_keyed Try.underlying3
theorem kint_key {p : Int} (h : fit p) : keyOf Try.prog 3 (.int .i64 p) = some (.int .i64 p) := keyOf_int_mk Try.underlying3 h
/-- What the map's datum tells. -/
structure KTells (D : DataW Unit) (V : Kv) : Prop where
  has : ∀ p, fit p → Maps.has D (.int .i64 p) = (V p).isSome
  at_ : ∀ p f, V p = some f → ∀ z, D.atKey (.int .i64 p) z = .lit (.int .i64 f)
  size : Maps.size D = V.all.length
theorem KTells.at0 {D : DataW Unit} {V : Kv} (h : KTells D V) {p : Int} (hp : fit p) : D.atKey (.int .i64 p) (.lit (.int .i64 0)) = .lit (.int .i64 (V.val p)) := by
  unfold Kv.val
  cases hS : V p with
  | none => exact atKey_of_not_has (by rw [h.has p hp, hS]; rfl) _
  | some f => exact h.at_ p f hS _
theorem KTells.put {D : DataW Unit} {V : Kv} (h : KTells D V) (hm : Tidy D) {p f : Int} (hk : 0 ≤ p ∧ p < 64) (hp : fit p) : KTells (D.put (.int .i64 p) (.lit (.int .i64 f))) (V.put p f) := by
  refine ⟨fun q hq => ?_, fun q g hg z => ?_, by rw [size_put hm, h.has p hp, h.size, Kv.all_len_put hk]⟩
  · by_cases e : q = p
    · subst e; rw [has_put_same hm.isMap (kint_law.key (kint_key hq)), Kv.put_same]; rfl
    · rw [has_put_other (fun he => e (by injection he)), Kv.put_other _ e, h.has q hq]
  · by_cases e : q = p
    · subst e
      rw [Kv.put_same] at hg
      cases hg
      exact atKey_put_same hm.isMap (kint_law.key (kint_key hp)) _ _
    · rw [Kv.put_other _ e] at hg
      rw [atKey_put_other (fun he => e (by injection he)), h.at_ q g hg]
theorem KTells.del {D : DataW Unit} {V : Kv} (h : KTells D V) (hm : Tidy D) (ho : V.Ok) {p : Int} (hp : fit p) : KTells (D.del (.int .i64 p)) (V.del p) := by
  refine ⟨fun q hq => ?_, fun q g hg z => ?_, by
    have h1 := size_del hm (k := .int .i64 p)
    have h2 := Kv.all_len_del ho (k := p)
    rw [h.has p hp, h.size] at h1
    omega⟩
  · by_cases e : q = p
    · subst e; rw [has_del_same, Kv.del_same]; rfl
    · rw [has_del_other (fun he => e (by injection he)), Kv.del_other _ e, h.has q hq]
  · by_cases e : q = p
    · subst e; rw [Kv.del_same] at hg; cases hg
    · rw [Kv.del_other _ e] at hg
      rw [atKey_del_other (fun he => e (by injection he)), h.at_ q g hg]
/-- The store in block sb, its map in block bm. -/
structure St (w : World) (sb bm N : Nat) (V : Kv) : Prop where
  blk : Blk w sb 80 #[.map (some bm)]
  map : ∃ D, w.ownsMap Try.prog 3 (plainElem Try.prog 3) bm N D ∧ KTells D V
  ok : V.Ok
section
variable {w w' : World} {sb bm N : Nat} {V : Kv}
theorem St.kept {Z : Nat → Prop} (h : St w sb bm N V) (ht : Turn Z w w') (h1 : ¬ Z sb) (h2 : ¬ Z bm) : St w' sb bm N V := by
  obtain ⟨D, h3, h4⟩ := h.map
  exact ⟨ht.blk h.blk h1, ⟨D, ht.map h3 h2, h4⟩, h.ok⟩
theorem St.drewN (h : St w sb bm N V) (n : Nat) : St (w.drewN n) sb bm N V := h.kept ((Turn.refl (fun _ => False) w).drewN n) id id
theorem St.below (h : St w sb bm N V) (ht : Below w.heap.size w w') : St w' sb bm N V := h.kept (Turn.of_below (Z := fun _ => False) ht) id id
theorem St.lt (h : St w sb bm N V) : sb < w.heap.size ∧ bm < w.heap.size := ⟨h.blk.lt, h.map.elim fun _ h => h.1.lt⟩
theorem St.ne (h : St w sb bm N V) : sb ≠ bm := by
  rintro rfl
  obtain ⟨D, ⟨es, clock, hb, _⟩, _⟩ := h.map
  have := h.blk
  unfold Blk at this
  rw [hb] at this
  cases this
theorem St.mono (h : St w sb bm N V) {M : Nat} (hM : N ≤ M) : St w sb bm M V := ⟨h.blk, h.map.elim fun D hD => ⟨D, hD.1.mono hM, hD.2⟩, h.ok⟩
theorem kfit {k : Int} (h : 0 ≤ k ∧ k < 64) : fit k := WalkArith.wf_i64 (by omega)
theorem kzero_int (w : World) : (zeroValue 3).run Try.prog w = .ok (.int .i64 0) w := by kernel_rfl
/-- What a look-up in its map tells. -/
theorem St.look (h : St w sb bm N V) {p : Int} (hp : fit p) :
    (Instr.lookup 78 (.map (some bm)) (.int .i64 p) true).run Try.prog w = .ok (.tuple #[.int .i64 (V.val p), .bool (V p).isSome]) w := by
  obtain ⟨D, h1, h2⟩ := h.map
  obtain ⟨v, ps, hrun, hv⟩ := h1.look_ok kint_law Try.underlying78 (kzero_int w) (plainElem_int Try.underlying3 (by decide)) (kint_key hp)
  obtain ⟨c, rfl, hc, _⟩ := plainElem_int_inv Try.underlying3 hv
  rw [h2.has p hp] at hrun
  simp only [Prod.mk.injEq] at hc
  rw [h2.at0 hp] at hc
  have : V.val p = c := by injection hc.1 with h4; injection h4
  subst this
  exact hrun
theorem St.peep (h : St w sb bm N V) {p : Int} (hp : fit p) :
    (Instr.lookup 78 (.map (some bm)) (.int .i64 p) false).run Try.prog w = .ok (.int .i64 (V.val p)) w := by
  obtain ⟨D, h1, h2⟩ := h.map
  obtain ⟨c, hrun, hc, _⟩ := h1.lookup_int kint_law Try.underlying78 Try.underlying3 (kzero_int w) (kint_key hp)
  rw [h2.at0 hp] at hc
  have : V.val p = c := by injection hc with h4; injection h4
  subst this
  exact hrun
/-- What a store into its map does. -/
theorem St.store (h : St w sb bm N V) (hN : N < maxLen) {p f : Int} (hp : 0 ≤ p ∧ p < 64) (hf : -2147483648 < f ∧ f < 2147483648) :
    ∃ w', (Instr.mapUpdate 78 (.map (some bm)) (.int .i64 p) (.int .i64 f)).run Try.prog w = .ok () w' ∧ St w' sb bm (N + 1) (V.put p f) ∧ Turn (fun k => k = bm) w w' := by
  have hne := h.ne
  have hblk := h.blk
  obtain ⟨D, h1, h2⟩ := h.map
  have hm := h1.tidy kint_law
  obtain ⟨w2, hrun, ho, hg⟩ := h1.update kint_law Try.underlying78 hN (kint_key (kfit hp)) (plainElem_int Try.underlying3 (a := f) (WalkArith.wf_i64 (by omega)))
  have ht : Turn (fun k => k = bm) w w2 := Turn.grown (Turn.refl _ w) hg (fun k hk _ => (Option.some.inj hk).symm)
  exact ⟨w2, hrun, ⟨ht.blk hblk hne, ⟨_, ho, h2.put hm hp (kfit hp)⟩, h.ok.put hp hf⟩, ht⟩
/-- What a delete does. -/
theorem St.drop (h : St w sb bm N V) {p : Int} (hp : fit p) (ty : TypeId) :
    ∃ w', (Builtin.delete_ #[78, 3] ty #[.map (some bm), .int .i64 p]).run Try.prog w = .ok (.tuple #[]) w' ∧ St w' sb bm N (V.del p) ∧ Turn (fun k => k = bm) w w' := by
  have hne := h.ne
  have hblk := h.blk
  obtain ⟨D, h1, h2⟩ := h.map
  have hm := h1.tidy kint_law
  obtain ⟨w2, hrun, ho, hg⟩ := h1.drop kint_law Try.underlying78 (kint_key hp) ty
  have ht : Turn (fun k => k = bm) w w2 := Turn.grown (Turn.refl _ w) hg.grown (fun k hk _ => (Option.some.inj hk).symm)
  exact ⟨w2, hrun, ⟨ht.blk hblk hne, ⟨_, ho, h2.del hm h.ok hp⟩, h.ok.del p⟩, ht⟩
end

set_option maxHeartbeats 400000 in
theorem snew_any (w : World) : Calls Try.prog 37 #[] w fun e w' => ∃ sb bm, e = .returned (.pointer (some ⟨sb, 0, none⟩)) ∧ St w' sb bm 0 Kv.new ∧ w.heap.size ≤ sb ∧ w.heap.size ≤ bm ∧ Below w.heap.size w w' := by
  have hmm := @run_makeMap Try.prog
  go_enter Try.func37, Try.ntmps37
  go_wp2_with fail
  go_ret
  have h1 : (w.alloc (.map #[] 0)).heap.size = w.heap.size + 1 := by simp
  refine ⟨_, _, rfl, ⟨Blk.new1 w _ _ _, ⟨_, (World.ownsMap_made w _ _ _).alloc _, ⟨fun p _ => rfl, fun p f h => by (cases h), rfl⟩⟩, Kv.Ok.new⟩, Nat.le_succ _, Nat.le_refl _, ((Below.refl _ _).alloc (Nat.le_refl _) _).alloc (by rw [h1]; omega) _⟩
theorem ikeys_any (w : World) (k : Int) : Calls Try.prog 50 #[.int .i64 k] w fun e w' => e = .returned (.bool (decide (0 ≤ k ∧ k < 64))) ∧ w = w' := by
  rcases (by omega : k < 0 ∨ (0 ≤ k ∧ k < 64) ∨ (0 ≤ k ∧ 64 ≤ k)) with h | ⟨h, h2⟩ | ⟨h, h2⟩
  all_goals
    go_enter Try.func50, Try.ntmps50
    go_wp2
    go_ret
    exact ⟨by simp <;> omega, rfl⟩
theorem ivals_any (w : World) (k : Int) : Calls Try.prog 51 #[.int .i64 k] w fun e w' => e = .returned (.bool (decide (-2147483648 < k ∧ k < 2147483648))) ∧ w = w' := by
  rcases (by omega : k ≤ -2147483648 ∨ (-2147483648 < k ∧ k < 2147483648) ∨ (-2147483648 < k ∧ 2147483648 ≤ k)) with h | ⟨h, h2⟩ | ⟨h, h2⟩
  all_goals
    go_enter Try.func51, Try.ntmps51
    go_wp2
    go_ret
    exact ⟨by simp <;> omega, rfl⟩
set_option maxHeartbeats 1000000 in
theorem sadd_out {w : World} {sb bm N : Nat} {V : Kv} (h : St w sb bm N V) {p v : Int} (hp : fit p) (hv : -2147483648 < v ∧ v < 2147483648) (hr : ¬ (-2147483648 < V.val p + v ∧ V.val p + v < 2147483648)) :
    Calls Try.prog 52 #[.pointer (some ⟨sb, 0, none⟩), .int .i64 p, .int .i64 v] w fun e w' => e = .returned (.int .i64 (V.val p)) ∧ w = w' := by
  have hc0 := h.blk.cell 0
  simp only [List.getElem?_toArray, List.getElem?_cons_zero] at hc0
  have hl := h.peep hp
  obtain ⟨o1, o2⟩ := h.ok.val p
  have hwr : IntKind.i64.wrap (V.val p + v) = V.val p + v := IntWalk.i64_in _ ⟨by omega, by omega⟩
  have hw6 : wrap64 (V.val p + v) = V.val p + v := IntWalk.wrap64_in _ ⟨by omega, by omega⟩
  obtain ⟨x, hx⟩ : ∃ x, V.val p + v = x := ⟨_, rfl⟩
  rw [hx] at hwr hw6 hr
  have hg : decide (-2147483648 < x ∧ x < 2147483648) = false := decide_eq_false hr
  have KI := Lib.hid (fun w => ivals_any w x)
  have HG := Lib.hid hg
  clear h hr hg hv
  go_enter Try.func52, Try.ntmps52
  go_wp2_with fail
  refine (KI.out _).mono ?_
  rintro e w1 ⟨rfl, rfl⟩
  rw [HG.out]
  go_wp2
  go_ret
  exact ⟨rfl, rfl⟩
set_option maxHeartbeats 1000000 in
theorem sadd_in {w : World} {sb bm N : Nat} {V : Kv} (h : St w sb bm N V) (hN : N < maxLen) {p v : Int} (hp : 0 ≤ p ∧ p < 64) (hr : -2147483648 < V.val p + v ∧ V.val p + v < 2147483648) :
    Calls Try.prog 52 #[.pointer (some ⟨sb, 0, none⟩), .int .i64 p, .int .i64 v] w fun e w' => e = .returned (.int .i64 (V.val p + v)) ∧ St w' sb bm (N + 1) (V.put p (V.val p + v)) ∧ Turn (fun k => k = bm) w w' := by
  have hc0 := h.blk.cell 0
  simp only [List.getElem?_toArray, List.getElem?_cons_zero] at hc0
  have hl := h.peep (kfit hp)
  obtain ⟨o1, o2⟩ := h.ok.val p
  have hwr : IntKind.i64.wrap (V.val p + v) = V.val p + v := IntWalk.i64_in _ ⟨by omega, by omega⟩
  have hw6 : wrap64 (V.val p + v) = V.val p + v := IntWalk.wrap64_in _ ⟨by omega, by omega⟩
  obtain ⟨w2, hrun, hc2, ht2⟩ := h.store hN hp hr
  obtain ⟨x, hx⟩ : ∃ x, V.val p + v = x := ⟨_, rfl⟩
  rw [hx] at hwr hw6 hr hrun hc2
  rw [hx]
  have hg : decide (-2147483648 < x ∧ x < 2147483648) = true := decide_eq_true hr
  have KI := Lib.hid (fun w => ivals_any w x)
  have HG := Lib.hid hg
  have HR := Lib.hid hc2
  have HT := Lib.hid ht2
  clear h hr hg hN hp hc2 ht2
  go_enter Try.func52, Try.ntmps52
  go_wp2_with fail
  refine (KI.out _).mono ?_
  rintro e w1 ⟨rfl, rfl⟩
  rw [HG.out]
  go_wp2
  go_ret
  exact ⟨rfl, HR.out, HT.out⟩
end Go.Proofs.Ytpjcedilkahpiaa
