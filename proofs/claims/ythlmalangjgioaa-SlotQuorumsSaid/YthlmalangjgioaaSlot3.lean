/- Package slot: Pre, Chosen, Reset, New. -/
import Derived.Test.YthlmalangjgioaaSlot2
namespace Go.Proofs.Ythlmalangjgioaa
open Go.RowKit
set_option linter.unusedSimpArgs false

section
variable {w w2 : World} {Z : Nat → Prop} {v v1 v2 : Value} {l b : List Rq} {L : List Vo} {M : List Ve} {sb : Nat} {f : Int} {s : Sx}
set_option maxHeartbeats 1000000 in
theorem spre_any (h : Sl w Z sb v1 v2 f s) {A : Option Addr} {n c B : Nat} (hb : Has w B A (reqCells b)) (hn : b.length = n) (hm : n ≤ 1000000) :
    Calls Try.prog 12 #[.pointer (some ⟨sb, 0, none⟩), .slice A n c] w fun e w' => e = .returned (.bool (!s.ch.isSome)) ∧ SlPost w Z sb v1 v2 f (s.pre b) w' := by
  cases hc : s.ch with
  | some y =>
    have HS := Lib.hid (SlPost.same h (Below.refl _ _))
    obtain ⟨cv, M1, M2, h1, h2, h3, h4⟩ := h.mem
    have c1 := h1.cell 1
    simp only [List.getElem?_toArray, List.getElem?_cons_zero, List.getElem?_cons_succ, hc, Option.isSome_some] at c1
    have HE := Lib.hid (show s.pre b = s by unfold Sx.pre; rw [hc]; rfl)
    clear h h1 h2 h3 h4 hc hb hn hm
    go_enter Try.func12, Try.ntmps12
    go_wp2
    go_ret
    exact ⟨rfl, by rw [HE.out]; exact HS.out⟩
  | none =>
    have HSl := Lib.hid h
    obtain ⟨cv, M1, M2, h1, h2, h3, h4⟩ := h.mem
    have HB1 := Lib.hid h1
    have c1 := h1.cell 1
    simp only [List.getElem?_toArray, List.getElem?_cons_zero, List.getElem?_cons_succ, hc, Option.isSome_none] at c1
    obtain ⟨Ac, cc, rfl, -, -⟩ := own_slice h2.own
    obtain ⟨nc, hnc⟩ : ∃ y, (s.ch.getD []).length = y := ⟨_, rfl⟩
    have HMem := Lib.hid (And.intro h2 (And.intro h3 h4))
    rw [hnc] at HB1 HMem
    have HC := Lib.hid hc
    have HE := Lib.hid (show s.pre b = ⟨some b, s.P, s.C⟩ by unfold Sx.pre; rw [hc]; rfl)
    have HBw := Lib.hid (mq_clone (c := c) hb hn hm)
    have HN := Lib.hid hn
    have HM := Lib.hid hm
    clear h h1 h2 h3 h4 hc hb hn hm hnc
    go_enter Try.func12, Try.ntmps12
    go_wp2_with fail
    refine HBw.out.mono ?_
    rintro e w2 ⟨u, rfl, ho, hb⟩
    have k2 := HB1.out.below hb HB1.out.lt
    have e1 := k2.cell 1
    have e2 := k2.cell 2
    have f1 := k2.frozen 1
    have f2 := k2.frozen 2
    simp only [List.getElem?_toArray, List.getElem?_cons_zero, List.getElem?_cons_succ, HC.out, Option.isSome_none] at e1 e2
    have HK2 := Lib.hid k2
    have HO := Lib.hid ho
    have HBb := Lib.hid hb
    clear k2 hb
    obtain ⟨A2, d2, rfl, -, -⟩ := own_slice ho
    clear ho
    go_wp2_with fail
    go_ret
    refine ⟨rfl, ?_⟩
    rw [HE.out]
    have hmn : ∀ j, Z j → Z j ∨ w.heap.size ≤ j := fun _ hj => Or.inl hj
    have hS2 := HSl.out.below HBb.out
    have ht2 : Turn (fun j => j = sb) w2 ((w2.setCell ⟨sb, 1, none⟩ (.bool true)).setCell ⟨sb, 2, none⟩ (.slice A2 n d2)) := ((Turn.refl (fun j => j = sb) w2).set_ ⟨sb, 1, none⟩ _ rfl).set_ ⟨sb, 2, none⟩ _ rfl
    have hoff : ∀ {Z' : Nat → Prop} {u : Value} {y : List Rq}, Bat w2 Z' u y → ∀ j, u.ownBlock = some j → ¬ j = sb := fun hu j hj e => hS2.apart hu hj (Or.inl e)
    obtain ⟨h2, h3, h4⟩ := HMem.out
    have hF : ∀ {Z' : Nat → Prop} {u : Value} {y : List Rq}, Bat w Z' u y → Bat w2 Z' u y := fun hu => hu.kept (Turn.of_below (Z := fun _ => False) HBb.out) (fun _ _ => id)
    have hR : ∀ {u : Value} {L : List Vo} {M : List Ve}, Row w Z u L M → u.ownBlock ≠ some sb → Row ((w2.setCell ⟨sb, 1, none⟩ (.bool true)).setCell ⟨sb, 2, none⟩ (.slice A2 n d2)) (fun j => Z j ∨ w.heap.size ≤ j) u L M := fun hu hne =>
      (((hu.kept (Turn.of_below (Z := fun _ => False) HBb.out) (fun _ _ => id) (fun _ _ _ _ _ => id)).kept ht2 (fun j hj e => hne (by rw [hj, e])) (fun _ _ hb => hoff hb)).mono hmn)
    have hnew : Bat w2 (fun j => w.heap.size ≤ j) (.slice A2 n d2) b := ⟨by rw [HN.out]; exact own_to0 HO.out, by rw [HN.out]; exact HM.out, fun j hj => (HO.out.lt j hj).1⟩
    refine ⟨v1, v2, ⟨HSl.out.f1, HSl.out.f4, HSl.out.n1, HSl.out.n2, HSl.out.ne, .slice A2 n d2, M1, M2, ?_, ?_, hR h3 (own_blk_ne h3.own HB1.out (by decide)), hR h4 (own_blk_ne h4.own HB1.out (by decide))⟩, fun _ hg => Or.inl hg, ?_⟩
    · exact (HK2.out.set_ 1 _).set_ 2 _
    · exact (hnew.kept ht2 (hoff hnew)).mono (fun _ hj => Or.inr hj)
    · exact (Turn.of_below HBb.out).trans (ht2.mono (fun _ _ hj => Or.inl hj))
set_option maxHeartbeats 1000000 in
theorem schosen_any (h : Sl w Z sb v1 v2 f s) : Calls Try.prog 20 #[.pointer (some ⟨sb, 0, none⟩)] w fun e w' => ∃ u, e = .returned (.tuple #[u, .bool s.ch.isSome]) ∧ w'.ownsRow w.heap.size 32 6 u (s.ch.getD []).length (reqCells (s.ch.getD [])) ∧ Below w.heap.size w w' := by
  obtain ⟨cv, M1, M2, h1, h2, h3, h4⟩ := h.mem
  have HK := Lib.hid h1
  have HLow := h2.low
  obtain ⟨A, c, rfl, _, hh⟩ := h2.has
  obtain ⟨y, hy⟩ : ∃ y, s.ch.getD [] = y := ⟨_, rfl⟩
  obtain ⟨b0, hb0⟩ : ∃ y, s.ch.isSome = y := ⟨_, rfl⟩
  rw [hy] at HLow hh ⊢
  rw [hy, hb0] at HK
  rw [hb0]
  obtain ⟨n, hn⟩ : ∃ y', y.length = y' := ⟨_, rfl⟩
  rw [hn] at HK HLow ⊢
  have HC := Lib.hid (mq_clone (w := w.drew) (c := c) hh.drew hn HLow)
  have c1 : w.drew.cell? ⟨sb, 1, none⟩ = some (.bool b0) := HK.out.cell 1
  have c2 : w.drew.cell? ⟨sb, 2, none⟩ = some (.slice A n c) := HK.out.cell 2
  clear h h1 h2 h3 h4 hy hb0 hn hh HLow
  go_enter Try.func20, Try.ntmps20
  go_wp2_with fail
  go_region_held3 (fun w' => w'.cell? ⟨sb, 1, none⟩ = some (.bool b0) ∧ w'.cell? ⟨sb, 2, none⟩ = some (.slice A n c)) (first | exact ⟨c1, c2⟩ | exact hq2 | go_keep)
    ((go_at_call 26; refine HC.out.mono ?_; rintro e w2 ⟨v', rfl, ho, hb⟩; have hbk := HK.out.drew.below hb HK.out.lt; have hq2 : w2.cell? ⟨sb, 1, none⟩ = some (.bool b0) ∧ w2.cell? ⟨sb, 2, none⟩ = some (.slice A n c) := ⟨hbk.cell 1, hbk.cell 2⟩; obtain ⟨A2, d2, rfl, -, -⟩ := own_slice ho))
  have HO := Lib.hid ho
  have HB := Lib.hid (show Below w.heap.size w w2 from Below.trans (⟨rfl, rfl, rfl, Nat.le_refl _, fun _ _ => rfl⟩ : Below w.heap.size w w.drew) hb)
  clear ho hb hbk hq2 c1 c2
  go_wp2_with fail
  go_ret2
  exact ⟨_, rfl, HO.out, HB.out⟩
end
/-! ### Reset, New -/
def blankE : Ve := ⟨offV, none, 0⟩
theorem made_ves (n : Nat) : madeCells #[.bool false, .int .i64 0, .slice none 0 0] (n * 3) = (veCells (List.replicate n blankE)).toArray := by
  apply Array.ext_getElem?
  intro j
  by_cases hj : j < n * 3
  · have hk : j / 3 < n := by omega
    have hk2 : j / 3 < (List.replicate n blankE).length := by simpa using hk
    have hi : j % 3 < 3 := Nat.mod_lt _ (by omega)
    have h1 := flatMap_at (f := Ve.cells) ve_len hk2 hi
    have h2 : j / 3 * 3 + j % 3 = j := by omega
    rw [h2] at h1
    refine Eq.trans ?_ (List.getElem?_toArray (xs := veCells (List.replicate n blankE))).symm
    rw [show (veCells (List.replicate n blankE))[j]? = _ from h1, List.getElem_replicate]
    have h3 : j % 3 = 0 ∨ j % 3 = 1 ∨ j % 3 = 2 := by omega
    rcases h3 with h3 | h3 | h3 <;> (simp [madeCells, hj, h3, Ve.cells, blankE, offV])
  · rw [Array.getElem?_eq_none (by rw [size_madeCells]; omega), Array.getElem?_eq_none (by rw [List.size_toArray, veCells_len, List.length_replicate]; omega)]
theorem run_make_ves {n : Nat} (h : n ≤ 13) (w : World) :
    (Instr.makeSlice 64 (.int .i64 (n : Int)) (.int .i64 (n : Int))).run Try.prog w = .ok (.slice (some ⟨w.heap.size, 0, none⟩) n n) (w.alloc (.cells (veCells (List.replicate n blankE)).toArray 70)) := by
  obtain ⟨i0, hi0, hz0, hz1, hz2⟩ := info_parts info_ve
  have hr := run_make (P := Try.prog) w 64 70 i0 _ Try.underlying64 hi0 hz0 .i64 .i64 n n (by omega) (by omega) (by rw [hz2]; omega) (by omega)
  simp only [Int.toNat_natCast] at hr
  rw [hz1] at hr
  rw [← made_ves]
  exact hr
theorem row_made (w : World) (Z : Nat → Prop) {n : Nat} (h : n ≤ 13) (g : Nat) (hb : Blk w g 70 (veCells (List.replicate n blankE)).toArray) : Row w Z (.slice (some ⟨g, 0, none⟩) n n) (List.replicate n offV) (List.replicate n blankE) := by
  refine ⟨by simp [blankE], ⟨by rw [veCells_len, List.length_replicate, List.length_replicate], Or.inr ⟨g, n, _, by rw [List.length_replicate], Nat.zero_le _, hb, by rw [List.length_replicate]; exact Nat.le_refl _, by unfold maxLen; omega, by rw [List.size_toArray, veCells_len, List.length_replicate], ?_⟩⟩, fun x hx => ?_⟩
  · rw [List.length_replicate, List.take_of_length_le]
    rw [List.toList_toArray, veCells_len, List.length_replicate]; exact Nat.le_refl _
  · obtain rfl := List.eq_of_mem_replicate hx
    exact Bat.nil _ _
theorem reset_fin {w w2 : World} {sb g1 g2 : Nat} {f : Int} {c1 c2 c3 c4 : Value} {cs : Array Value} (h : Blk w2 sb 66 #[.int .i64 f, c1, c2, c3, c4]) (h1 : Blk w2 g1 70 cs) (h2 : Blk w2 g2 70 cs) (ht : Turn (fun k => k = sb) w w2) (n1 : g1 ≠ sb) (n2 : g2 ≠ sb) (x y : Value) :
    Blk ((((((w2.setCell ⟨sb, 0, none⟩ (.int .i64 f)).setCell ⟨sb, 1, none⟩ (.bool false)).setCell ⟨sb, 2, none⟩ (.slice none 0 0)).setCell ⟨sb, 3, none⟩ x).setCell ⟨sb, 4, none⟩ y).drew) sb 66 #[.int .i64 f, .bool false, .slice none 0 0, x, y] ∧
    Turn (fun k => k = sb) w ((((((w2.setCell ⟨sb, 0, none⟩ (.int .i64 f)).setCell ⟨sb, 1, none⟩ (.bool false)).setCell ⟨sb, 2, none⟩ (.slice none 0 0)).setCell ⟨sb, 3, none⟩ x).setCell ⟨sb, 4, none⟩ y).drew) ∧
    Blk ((((((w2.setCell ⟨sb, 0, none⟩ (.int .i64 f)).setCell ⟨sb, 1, none⟩ (.bool false)).setCell ⟨sb, 2, none⟩ (.slice none 0 0)).setCell ⟨sb, 3, none⟩ x).setCell ⟨sb, 4, none⟩ y).drew) g1 70 cs ∧
    Blk ((((((w2.setCell ⟨sb, 0, none⟩ (.int .i64 f)).setCell ⟨sb, 1, none⟩ (.bool false)).setCell ⟨sb, 2, none⟩ (.slice none 0 0)).setCell ⟨sb, 3, none⟩ x).setCell ⟨sb, 4, none⟩ y).drew) g2 70 cs :=
  ⟨(((((h.set_ 0 _).set_ 1 _).set_ 2 _).set_ 3 _).set_ 4 _).drew, (((((ht.set_ ⟨sb, 0, none⟩ _ rfl).set_ ⟨sb, 1, none⟩ _ rfl).set_ ⟨sb, 2, none⟩ _ rfl).set_ ⟨sb, 3, none⟩ _ rfl).set_ ⟨sb, 4, none⟩ _ rfl).drewN 1,
    (((((h1.far n1 _).far n1 _).far n1 _).far n1 _).far n1 _).drew, (((((h2.far n2 _).far n2 _).far n2 _).far n2 _).far n2 _).drew⟩
set_option maxHeartbeats 2000000 in
/-- The slot's cells behind Reset. -/
theorem sreset_cells {w : World} {sb n : Nat} {f : Int} (h1 : 1 ≤ f) (h4 : f ≤ 4) (hn : (n : Int) = 3 * f + 1) {c1 c2 c3 c4 : Value} (hb : Blk w sb 66 #[.int .i64 f, c1, c2, c3, c4]) :
    Calls Try.prog 25 #[.pointer (some ⟨sb, 0, none⟩)] w fun e w' => e = .returned (.tuple #[]) ∧ ∃ g1 g2, Blk w' sb 66 #[.int .i64 f, .bool false, .slice none 0 0, .slice (some ⟨g1, 0, none⟩) n n, .slice (some ⟨g2, 0, none⟩) n n] ∧
      Blk w' g1 70 (veCells (List.replicate n blankE)).toArray ∧ Blk w' g2 70 (veCells (List.replicate n blankE)).toArray ∧ g1 ≠ g2 ∧ w.heap.size ≤ g1 ∧ w.heap.size ≤ g2 ∧ Turn (fun k => k = sb) w w' := by
  have HN := Lib.hid (fun (w : World) => (show Calls Try.prog 35 #[.int .i64 f] w fun e w' => e = .returned (.int .i64 (n : Int)) ∧ w' = w from by
    have := bnodes_any f w
    rw [nodesS_in h1 h4, ← hn] at this
    exact this.mono fun _ _ he => ⟨he.1, he.2.symm⟩))
  have hmk := run_make_ves (n := n) (by omega)
  have HB := Lib.hid hb
  obtain ⟨cs, hcs⟩ : ∃ cs, (veCells (List.replicate n blankE)).toArray = cs := ⟨_, rfl⟩
  rw [hcs] at hmk ⊢
  have k0 : w.cell? ⟨sb, 0, none⟩ = some (.int .i64 f) := HB.out.cell 0
  have l0 : w.drew.cell? ⟨sb, 0, none⟩ = some (.int .i64 f) := HB.out.cell 0
  have a0 : (w.alloc (.cells cs 70)).cell? ⟨sb, 0, none⟩ = some (.int .i64 f) := (HB.out.alloc _).cell 0
  have HB2 := Lib.hid (show Blk ((w.alloc (.cells cs 70)).alloc (.cells cs 70)) sb 66 #[.int .i64 f, c1, c2, c3, c4] from (HB.out.alloc _).alloc _)
  have HG1 := Lib.hid (show Blk ((w.alloc (.cells cs 70)).alloc (.cells cs 70)) w.heap.size 70 cs from (Blk.new w _ _).alloc _)
  have HG2 := Lib.hid (show Blk ((w.alloc (.cells cs 70)).alloc (.cells cs 70)) (w.heap.size + 1) 70 cs from Blk.new1 w _ _ _)
  have HNe := Lib.hid (show w.heap.size ≠ sb ∧ w.heap.size + 1 ≠ sb from by have := HB.out.lt; omega)
  have HT2 := Lib.hid (show Turn (fun k => k = sb) w ((w.alloc (.cells cs 70)).alloc (.cells cs 70)) from ((Turn.refl (fun k => k = sb) w).alloc _).alloc _)
  obtain ⟨w2, hw2⟩ : ∃ w2, (w.alloc (.cells cs 70)).alloc (.cells cs 70) = w2 := ⟨_, rfl⟩
  have HW2 := Lib.hid hw2
  rw [hw2] at HB2 HG1 HG2 HT2
  have HFin := Lib.hid (fun (x y : Value) => reset_fin HB2.out HG1.out HG2.out HT2.out HNe.out.1 HNe.out.2 x y)
  rw [← HW2.out] at HFin HB2
  clear hw2 HW2 HG1 HG2 HT2
  have b0 := HB2.out.cell 0
  have b1 := HB2.out.cell 1
  have b2 := HB2.out.cell 2
  have b3 := HB2.out.cell 3
  have b4 := HB2.out.cell 4
  have f0 := HB2.out.frozen 0
  have f1 := HB2.out.frozen 1
  have f2 := HB2.out.frozen 2
  have f3 := HB2.out.frozen 3
  have f4 := HB2.out.frozen 4
  simp only [List.getElem?_toArray, List.getElem?_cons_zero, List.getElem?_cons_succ] at b0 b1 b2 b3 b4
  clear hb hcs h1 h4 hn
  go_enter Try.func25, Try.ntmps25
  go_wp2_with fail
  refine (HN.out _).mono ?_
  rintro e w1 ⟨rfl, rfl⟩
  go_wp2_with fail
  go_region_law (fail)
  all_goals go_wp2
  all_goals go_end0
  all_goals first
    | exact ⟨rfl, w1.heap.size, w1.heap.size + 1, (HFin.out _ _).1, (HFin.out _ _).2.2.1, (HFin.out _ _).2.2.2, by omega, by omega, by omega, (HFin.out _ _).2.1⟩
    | exact ⟨rfl, w1.heap.size + 1, w1.heap.size, (HFin.out _ _).1, (HFin.out _ _).2.2.2, (HFin.out _ _).2.2.1, by omega, by omega, by omega, (HFin.out _ _).2.1⟩
theorem row_ne {g1 g2 n : Nat} (h : g1 ≠ g2) : (Value.slice (some ⟨g1, 0, none⟩) n n).ownBlock ≠ (Value.slice (some ⟨g2, 0, none⟩) n n).ownBlock := fun e => h (by injection e)
/-- A slot with nothing in it, of its cells. -/
theorem sl_made {w : World} {Z : Nat → Prop} {sb g1 g2 n : Nat} {f : Int} (h1 : 1 ≤ f) (h4 : f ≤ 4) (hn : (n : Int) = 3 * f + 1) (hb : Blk w sb 66 #[.int .i64 f, .bool false, .slice none 0 0, .slice (some ⟨g1, 0, none⟩) n n, .slice (some ⟨g2, 0, none⟩) n n])
    (k1 : Blk w g1 70 (veCells (List.replicate n blankE)).toArray) (k2 : Blk w g2 70 (veCells (List.replicate n blankE)).toArray) (hne : g1 ≠ g2) : Sl w Z sb (.slice (some ⟨g1, 0, none⟩) n n) (.slice (some ⟨g2, 0, none⟩) n n) f (Sx.new n) :=
  ⟨h1, h4, by show ((List.replicate n offV).length : Int) = _; rw [List.length_replicate]; exact hn, by show ((List.replicate n offV).length : Int) = _; rw [List.length_replicate]; exact hn, row_ne hne,
    _, _, _, hb, Bat.nil _ _, row_made w Z (by omega) g1 k1, row_made w Z (by omega) g2 k2⟩
theorem sreset_any {w : World} {Z : Nat → Prop} {sb n : Nat} {v1 v2 : Value} {f : Int} {s : Sx} (h : Sl w Z sb v1 v2 f s) (hn : s.P.length = n) : Calls Try.prog 25 #[.pointer (some ⟨sb, 0, none⟩)] w fun e w' => e = .returned (.tuple #[]) ∧ SlPost w Z sb v1 v2 f (Sx.new n) w' := by
  obtain ⟨cv, M1, M2, k1, _, _, _⟩ := h.mem
  have hn2 : (n : Int) = 3 * f + 1 := by rw [← hn]; exact h.n1
  refine (sreset_cells h.f1 h.f4 hn2 k1).mono ?_
  rintro e w' ⟨rfl, g1, g2, a1, a2, a3, a4, a5, a6, a7⟩
  refine ⟨rfl, _, _, sl_made h.f1 h.f4 hn2 a1 a2 a3 a4, fun g hg => ?_, a7.mono (fun _ _ hk => Or.inl hk)⟩
  rcases hg with hg | hg | hg
  · exact Or.inl (Or.inl hg)
  · have : g1 = g := by injection hg
    exact Or.inr (this ▸ a5)
  · have : g2 = g := by injection hg
    exact Or.inr (this ▸ a6)
set_option maxHeartbeats 400000 in
theorem slnew_any {f : Int} {n : Nat} (h1 : 1 ≤ f) (h4 : f ≤ 4) (hn : (n : Int) = 3 * f + 1) (w : World) : Calls Try.prog 10 #[.int .i64 f] w fun e w' => ∃ sb v1 v2, e = .returned (.tuple #[.pointer (some ⟨sb, 0, none⟩), .int .i64 0]) ∧ Sl w' (fun k => w.heap.size ≤ k) sb v1 v2 f (Sx.new n) ∧ (∀ k, SZ sb v1 v2 k → w.heap.size ≤ k) ∧ Below w.heap.size w w' := by
  have HB := Lib.hid (Blk.new w 66 #[.int .i64 f, .bool false, .slice none 0 0, .slice none 0 0, .slice none 0 0])
  have HL := Lib.hid (show Below w.heap.size w (w.alloc (.cells #[.int .i64 f, .bool false, .slice none 0 0, .slice none 0 0, .slice none 0 0] 66)) from (Below.refl _ _).alloc (Nat.le_refl _) _)
  have HR := Lib.hid (sreset_cells h1 h4 hn HB.out)
  have HM := Lib.hid (fun (w' : World) (g1 g2 : Nat) (a : _) (b : _) (c : _) (d : _) => sl_made (w := w') (Z := fun k => w.heap.size ≤ k) (sb := w.heap.size) (g1 := g1) (g2 := g2) h1 h4 hn a b c d)
  have a1 : decide (f < 1) = false := decide_eq_false (by omega)
  have a2 : decide (4 < f) = false := decide_eq_false (by omega)
  clear h1 h4 hn
  go_enter Try.func10, Try.ntmps10
  go_wp2_with fail
  refine HR.out.mono ?_
  rintro e w' ⟨rfl, g1, g2, b1, b2, b3, b4, b5, b6, b7⟩
  have HS := Lib.hid (HM.out w' g1 g2 b1 b2 b3 b4)
  have HT := Lib.hid (HL.out.trans (b7.below HL.out.size (fun k hk e => by omega)))
  have HZ := Lib.hid (show ∀ k, SZ w.heap.size (.slice (some ⟨g1, 0, none⟩) n n) (.slice (some ⟨g2, 0, none⟩) n n) k → w.heap.size ≤ k from fun k hk => by
    have := HL.out.size
    rcases hk with hk | hk | hk
    · omega
    · have : g1 = k := by injection hk
      omega
    · have : g2 = k := by injection hk
      omega)
  clear b1 b2 b3 b4 b5 b6 b7 HR HM
  go_wp2_with fail
  go_ret2
  exact ⟨_, _, _, rfl, HS.out, HZ.out, HT.out⟩
theorem slnew_out {f : Int} (h : ¬ (1 ≤ f ∧ f ≤ 4)) (w : World) : Calls Try.prog 10 #[.int .i64 f] w fun e w' => e = .returned (.tuple #[.pointer none, .int .i64 1]) ∧ w = w' := by
  by_cases b1 : f < 1
  · have a1 : decide (f < 1) = true := decide_eq_true b1
    clear h
    go_enter Try.func10, Try.ntmps10
    go_wp2
    go_ret2
    exact ⟨rfl, rfl⟩
  · have a1 : decide (f < 1) = false := decide_eq_false b1
    have a2 : decide (4 < f) = true := decide_eq_true (by omega)
    clear h
    go_enter Try.func10, Try.ntmps10
    go_wp2
    go_ret2
    exact ⟨rfl, rfl⟩
end Go.Proofs.Ythlmalangjgioaa
