/- Package cache: a cache's replies as a list of pairs (a time and a result); New, Last, Get, Put. -/
import Derived.Test.YtpjcedilkahpiaaGears
import Derived.Test.YtpjcedilkahpiaaNotary
import Derived.Test.YtpjcedilkahpiaaApps
import Derived.Test.YtpjcedilkahpiaaRowCells
import Derived.Test.YtpjcedilkahpiaaSamePairs
import Derived.Laws.MakeOwn
import Derived.Lib.SliceRun
import Derived.Lib.Hide
import Derived.Deep.QuietTactic
import Derived.BigQuiet
import Derived.Deep.RegionLaw
import Derived.RegionTactic
namespace Go.Proofs.Ytpjcedilkahpiaa
open Go.RowKit Go.Maps

/-- The cache in block cb, its replies in block g. -/
structure Ch (w : World) (cb g c : Nat) (L : List (Int × Int)) : Prop where
  blk : Blk w cb 92 #[.slice (some ⟨g, 0, none⟩) L.length c]
  row : w.ownsRow 0 89 2 (.slice (some ⟨g, 0, none⟩) L.length c) L.length (pairCells L)
  l1 : 1 ≤ L.length
  l4 : L.length ≤ 4
section
variable {w w' : World} {cb g c : Nat} {L : List (Int × Int)}
theorem Ch.kept {Z : Nat → Prop} (h : Ch w cb g c L) (ht : Turn Z w w') (h1 : ¬ Z cb) (h2 : ¬ Z g) : Ch w' cb g c L :=
  ⟨ht.blk h.blk h1, ht.own h.row (fun k hk => by cases hk; exact h2), h.l1, h.l4⟩
theorem Ch.drewN (h : Ch w cb g c L) (n : Nat) : Ch (w.drewN n) cb g c L := h.kept ((Turn.refl (fun _ => False) w).drewN n) id id
theorem Ch.below (h : Ch w cb g c L) (ht : Below w.heap.size w w') : Ch w' cb g c L := h.kept (Turn.of_below (Z := fun _ => False) ht) id id
theorem Ch.ne (h : Ch w cb g c L) : cb ≠ g := fun e => own_blk_ne h.row h.blk (by decide) (by rw [e]; rfl)
theorem Ch.lt (h : Ch w cb g c L) : cb < w.heap.size ∧ g < w.heap.size := ⟨h.blk.lt, (h.row.lt g rfl).2⟩
/-- A reply of the row. -/
theorem Ch.at (h : Ch w cb g c L) {k : Nat} (hk : k < L.length) : w.cell? ⟨g, k * 2, none⟩ = some (.int .i64 L[k].1) ∧ w.cell? ⟨g, k * 2 + 1, none⟩ = some (.int .i64 L[k].2) := by
  obtain ⟨ad, e, _, h0, h1⟩ := pair_at (has_rows h.row) hk
  cases e
  rw [addr_at] at h0 h1
  exact ⟨h0, h1⟩
theorem Ch.frozen (h : Ch w cb g c L) (j : Nat) : w.frozen? ⟨g, j, none⟩ = false := h.row.frozenAt j
end
theorem info_rep : (Try.prog.info? 89).map (fun i => (i.zero, i.size, i.bytes)) = some (some (.agg #[.int .i64 0, .int .i64 0]), 2, 16) := by kernel_rfl
theorem made_reps {n : Nat} (h1 : 1 ≤ n) (h4 : n ≤ 4) : madeCells #[.int .i64 0, .int .i64 0] (n * 2) = (pairCells (List.replicate n (0, 0))).toArray := by
  have : n = 1 ∨ n = 2 ∨ n = 3 ∨ n = 4 := by omega
  rcases this with rfl | rfl | rfl | rfl <;> (clear h1 h4; apply Array.toList_inj.1; simp [madeCells, pairCells, List.replicate, Array.toList_range, List.range_succ])
theorem run_make_reps {n : Nat} (h1 : 1 ≤ n) (h4 : n ≤ 4) (w : World) :
    (Instr.makeSlice 90 (.int .i64 (n : Int)) (.int .i64 (n : Int))).run Try.prog w = .ok (.slice (some ⟨w.heap.size, 0, none⟩) n n) (w.alloc (.cells (pairCells (List.replicate n (0, 0))).toArray 89)) := by
  obtain ⟨i0, hi0, hz0, hz1, hz2⟩ := info_parts info_rep
  have hr := run_make (P := Try.prog) w 90 89 i0 _ Try.underlying90 hi0 hz0 .i64 .i64 n n (by omega) (by omega) (by rw [hz2]; omega) (by omega)
  simp only [Int.toNat_natCast] at hr
  rw [hz1] at hr
  rw [← made_reps h1 h4]
  exact hr
set_option maxHeartbeats 400000 in
theorem cnew_any {n : Nat} (h1 : 1 ≤ n) (h4 : n ≤ 4) (w : World) : Calls Try.prog 36 #[.int .i64 (n : Int)] w fun e w' => ∃ cb g c, e = .returned (.tuple #[.pointer (some ⟨cb, 0, none⟩), .int .i64 0]) ∧ Ch w' cb g c (List.replicate n (0, 0)) ∧ w.heap.size ≤ cb ∧ w.heap.size ≤ g ∧ Below w.heap.size w w' := by
  have hmk := run_make_reps h1 h4
  have hs : (pairCells (List.replicate n (0, 0))).toArray.size = n * 2 := by rw [List.size_toArray, pairCells_len, List.length_replicate]
  have HO := Lib.hid (fun w => World.ownsRow_lit (e := 89) (size := 2) (base := 0) w (pairCells (List.replicate n (0, 0))).toArray n (Nat.zero_le _) (by unfold maxLen; omega) hs)
  have g1 : decide ((n : Int) < 1) = false := decide_eq_false (by omega)
  have g2 : decide ((4 : Int) < n) = false := decide_eq_false (by omega)
  have HL := Lib.hid (show n * 2 = (pairCells (List.replicate n (0, 0))).length by rw [pairCells_len, List.length_replicate])
  obtain ⟨cs, hcs⟩ : ∃ cs, (pairCells (List.replicate n (0, 0))).toArray = cs := ⟨_, rfl⟩
  have HC := Lib.hid hcs
  rw [hcs] at hmk HO
  clear hs hcs
  go_enter Try.func36, Try.ntmps36
  go_wp2
  go_ret2
  have hb1 : Below w.heap.size w (w.alloc (.cells cs 89)) := (Below.refl _ _).alloc (Nat.le_refl _) _
  have hs1 : (w.alloc (.cells cs 89)).heap.size = w.heap.size + 1 := by simp
  have hlen : (List.replicate n ((0 : Int), (0 : Int))).length = n := List.length_replicate
  refine ⟨_, w.heap.size, n, rfl, ⟨?_, ?_, by rw [hlen]; exact h1, by rw [hlen]; exact h4⟩, by omega, Nat.le_refl _, hb1.alloc (by rw [hs1]; omega) _⟩
  · rw [hlen]; exact Blk.new1 w _ _ _
  · rw [hlen]
    have := below_own (B := (w.alloc (.cells cs 89)).heap.size) (HO.out w) ((Below.refl _ _).alloc (Nat.le_refl _) (.cells #[.slice (some ⟨w.heap.size, 0, none⟩) n n] 92)) (Nat.le_refl _)
    rwa [← HC.out, List.toList_toArray, HC.out] at this
theorem cnew_out {n : Int} (h : ¬ (1 ≤ n ∧ n ≤ 4)) (w : World) : Calls Try.prog 36 #[.int .i64 n] w fun e w' => e = .returned (.tuple #[.pointer none, .int .i64 1]) ∧ w = w' := by
  by_cases h1 : n < 1
  · have g1 : decide (n < 1) = true := decide_eq_true h1
    go_enter Try.func36, Try.ntmps36
    go_wp2
    go_ret2
    exact ⟨rfl, rfl⟩
  · have h4 : 4 < n := by omega
    have g1 : decide (n < 1) = false := decide_eq_false h1
    have g2 : decide (4 < n) = true := decide_eq_true h4
    go_enter Try.func36, Try.ntmps36
    go_wp2
    go_ret2
    exact ⟨rfl, rfl⟩
section
variable {w : World} {cb g c : Nat} {L : List (Int × Int)}
theorem chas_in (h : Ch w cb g c L) {k : Nat} (hk : k < L.length) : Calls Try.prog 54 #[.pointer (some ⟨cb, 0, none⟩), .int .i64 (k : Int)] w fun e w' => e = .returned (.bool true) ∧ w = w' := by
  have hcell := h.blk.cell 0
  simp only [List.getElem?_toArray, List.getElem?_cons_zero] at hcell
  obtain ⟨n, hn⟩ : ∃ n, L.length = n := ⟨_, rfl⟩
  rw [hn] at hcell hk
  clear h hn
  go_enter Try.func54, Try.ntmps54
  go_wp2
  go_ret
  simp
theorem chas_out (h : Ch w cb g c L) {k : Int} (hk : k < 0 ∨ (L.length : Int) ≤ k) : Calls Try.prog 54 #[.pointer (some ⟨cb, 0, none⟩), .int .i64 k] w fun e w' => e = .returned (.bool false) ∧ w = w' := by
  have hcell := h.blk.cell 0
  simp only [List.getElem?_toArray, List.getElem?_cons_zero] at hcell
  obtain ⟨n, hn⟩ : ∃ n, L.length = n := ⟨_, rfl⟩
  rw [hn] at hcell hk
  clear h hn
  by_cases h0 : 0 ≤ k
  · have h1 : ¬ k < (n : Int) := by omega
    have g0 : decide (0 ≤ k) = true := decide_eq_true h0
    have g1 : decide (k < (n : Int)) = false := decide_eq_false h1
    go_enter Try.func54, Try.ntmps54
    go_wp2
    go_ret
    first | exact ⟨rfl, rfl⟩ | (simp; omega)
  · have g0 : decide (0 ≤ k) = false := decide_eq_false h0
    go_enter Try.func54, Try.ntmps54
    go_wp2
    go_ret
    first | exact ⟨rfl, rfl⟩ | (simp; omega)
theorem clast_in (h : Ch w cb g c L) {k : Nat} (hk : k < L.length) : Calls Try.prog 35 #[.pointer (some ⟨cb, 0, none⟩), .int .i64 (k : Int)] w fun e w' => e = .returned (.int .i64 L[k].1) ∧ w = w' := by
  have HC := Lib.hid (chas_in h hk)
  have hcell := h.blk.cell 0
  simp only [List.getElem?_toArray, List.getElem?_cons_zero] at hcell
  obtain ⟨h0, _⟩ := h.at hk
  obtain ⟨x, hx⟩ : ∃ x, L[k] = x := ⟨_, rfl⟩
  rw [hx] at h0 ⊢
  clear hx
  obtain ⟨n, hn⟩ : ∃ n, L.length = n := ⟨_, rfl⟩
  rw [hn] at hcell hk
  clear h hn
  go_enter Try.func35, Try.ntmps35
  go_wp2_with fail
  refine HC.out.mono ?_
  rintro e w1 ⟨rfl, rfl⟩
  go_wp2_with fail
  go_ret
  exact ⟨rfl, rfl⟩
theorem clast_out (h : Ch w cb g c L) {k : Int} (hk : k < 0 ∨ (L.length : Int) ≤ k) : Calls Try.prog 35 #[.pointer (some ⟨cb, 0, none⟩), .int .i64 k] w fun e w' => e = .returned (.int .i64 0) ∧ w = w' := by
  have HC := Lib.hid (chas_out h hk)
  clear h hk
  go_enter Try.func35, Try.ntmps35
  go_wp2_with fail
  refine HC.out.mono ?_
  rintro e w1 ⟨rfl, rfl⟩
  go_wp2_with fail
  go_ret
  exact ⟨rfl, rfl⟩
theorem cput_none (h : Ch w cb g c L) {k t r : Int} (hk : k < 0 ∨ (L.length : Int) ≤ k) : Calls Try.prog 55 #[.pointer (some ⟨cb, 0, none⟩), .int .i64 k, .int .i64 t, .int .i64 r] w fun e w' => e = .returned (.bool false) ∧ w = w' := by
  have HC := Lib.hid (chas_out h hk)
  clear h hk
  go_enter Try.func55, Try.ntmps55
  go_wp2_with fail
  refine HC.out.mono ?_
  rintro e w1 ⟨rfl, rfl⟩
  go_wp2_with fail
  go_ret
  exact ⟨rfl, rfl⟩
theorem cput_old (h : Ch w cb g c L) {k : Nat} {t r : Int} (hk : k < L.length) (ht : t ≤ L[k].1) : Calls Try.prog 55 #[.pointer (some ⟨cb, 0, none⟩), .int .i64 (k : Int), .int .i64 t, .int .i64 r] w fun e w' => e = .returned (.bool false) ∧ w = w' := by
  have HC := Lib.hid (chas_in h hk)
  have HD := Lib.hid (clast_in h hk)
  obtain ⟨x, hx⟩ : ∃ x, L[k].1 = x := ⟨_, rfl⟩
  rw [hx] at HD ht
  have g1 : decide (t ≤ x) = true := decide_eq_true ht
  clear h hk hx ht
  go_enter Try.func55, Try.ntmps55
  go_wp2_with fail
  refine HC.out.mono ?_
  rintro e w1 ⟨rfl, rfl⟩
  go_wp2_with fail
  refine HD.out.mono ?_
  rintro e w1 ⟨rfl, rfl⟩
  go_wp2_with fail
  go_ret
  exact ⟨rfl, rfl⟩
theorem pairs_set {l : List (Int × Int)} {k : Nat} (h : k < l.length) (t r : Int) : (pairCells l).take (k * 2) ++ [.int .i64 t, .int .i64 r] ++ (pairCells l).drop (k * 2 + 2) = pairCells (l.set k (t, r)) := by
  induction l generalizing k with
  | nil => simp at h
  | cons x l ih =>
    cases k with
    | zero => rfl
    | succ k =>
      have := ih (k := k) (by simpa using h)
      show (Value.int .i64 x.1 :: .int .i64 x.2 :: pairCells l).take ((k + 1) * 2) ++ _ ++ (Value.int .i64 x.1 :: .int .i64 x.2 :: pairCells l).drop ((k + 1) * 2 + 2) = .int .i64 x.1 :: .int .i64 x.2 :: pairCells (l.set k (t, r))
      rw [← this, show (k + 1) * 2 = k * 2 + 2 by omega]
      rfl
theorem Ch.put (h : Ch w cb g c L) {k : Nat} (hk : k < L.length) (t r : Int) : Ch ((w.setCell ⟨g, k * 2, none⟩ (.int .i64 t)).setCell ⟨g, k * 2 + 1, none⟩ (.int .i64 r)) cb g c (L.set k (t, r)) := by
  have ho := own_cells h.row (o := k * 2) (vs := [.int .i64 t, .int .i64 r]) (by show k * 2 + 2 ≤ _; omega)
  rw [show [Value.int .i64 t, .int .i64 r].length = 2 from rfl, pairs_set hk] at ho
  refine ⟨?_, by rw [List.length_set]; exact ho, by rw [List.length_set]; exact h.l1, by rw [List.length_set]; exact h.l4⟩
  rw [List.length_set]
  exact (h.blk.far h.ne _).far h.ne _
set_option maxHeartbeats 400000 in
theorem cput_new (h : Ch w cb g c L) {k : Nat} {t r : Int} (hk : k < L.length) (ht : L[k].1 < t) : Calls Try.prog 55 #[.pointer (some ⟨cb, 0, none⟩), .int .i64 (k : Int), .int .i64 t, .int .i64 r] w fun e w' => e = .returned (.bool true) ∧ Ch w' cb g c (L.set k (t, r)) ∧ Turn (fun j => j = g) w w' := by
  have HC := Lib.hid (chas_in h hk)
  have HD := Lib.hid (clast_in h hk)
  have HP := Lib.hid (h.put hk t r)
  have hcell := h.blk.cell 0
  simp only [List.getElem?_toArray, List.getElem?_cons_zero] at hcell
  obtain ⟨h0, h1⟩ := h.at hk
  have f0 := h.frozen (k * 2)
  have f1 := h.frozen (k * 2 + 1)
  obtain ⟨y, hy⟩ : ∃ y, L[k].2 = y := ⟨_, rfl⟩
  obtain ⟨x, hx⟩ : ∃ x, L[k].1 = x := ⟨_, rfl⟩
  rw [hx] at HD ht h0
  rw [hy] at h1
  have g1 : decide (t ≤ x) = false := decide_eq_false (by omega)
  obtain ⟨n, hn⟩ : ∃ n, L.length = n := ⟨_, rfl⟩
  rw [hn] at hcell hk
  clear h hx hy ht hn
  go_enter Try.func55, Try.ntmps55
  go_wp2_with fail
  refine HC.out.mono ?_
  rintro e w1 ⟨rfl, rfl⟩
  go_wp2_with fail
  refine HD.out.mono ?_
  rintro e w1 ⟨rfl, rfl⟩
  go_wp2_with fail
  go_ret
  exact ⟨rfl, HP.out, ((Turn.refl (fun j => j = g) w).set_ ⟨g, k * 2, none⟩ _ rfl).set_ ⟨g, k * 2 + 1, none⟩ _ rfl⟩
theorem cget_zero {k t : Int} (ht : t ≤ 0) : Calls Try.prog 34 #[.pointer (some ⟨cb, 0, none⟩), .int .i64 k, .int .i64 t] w fun e w' => e = .returned (.tuple #[.int .i64 0, .bool false]) ∧ w = w' := by
  have g1 : decide (t ≤ 0) = true := decide_eq_true ht
  go_enter Try.func34, Try.ntmps34
  go_wp2_with fail
  go_ret2
  exact ⟨rfl, rfl⟩
theorem cget_none (h : Ch w cb g c L) {k t : Int} (hk : k < 0 ∨ (L.length : Int) ≤ k) : Calls Try.prog 34 #[.pointer (some ⟨cb, 0, none⟩), .int .i64 k, .int .i64 t] w fun e w' => e = .returned (.tuple #[.int .i64 0, .bool false]) ∧ w = w' := by
  by_cases ht : t ≤ 0
  · exact cget_zero ht
  have HC := Lib.hid (clast_out h hk)
  clear h hk
  have g1 : decide (t ≤ 0) = false := decide_eq_false ht
  have g2 : (t != 0) = true := by simp; omega
  go_enter Try.func34, Try.ntmps34
  go_wp2_with fail
  refine HC.out.mono ?_
  rintro e w1 ⟨rfl, rfl⟩
  go_wp2_with fail
  go_ret2
  exact ⟨rfl, rfl⟩
theorem cget_other (h : Ch w cb g c L) {k : Nat} {t : Int} (hk : k < L.length) (hne : t ≠ L[k].1) : Calls Try.prog 34 #[.pointer (some ⟨cb, 0, none⟩), .int .i64 (k : Int), .int .i64 t] w fun e w' => e = .returned (.tuple #[.int .i64 0, .bool false]) ∧ w = w' := by
  by_cases ht : t ≤ 0
  · exact cget_zero ht
  have HC := Lib.hid (clast_in h hk)
  obtain ⟨x, hx⟩ : ∃ x, L[k].1 = x := ⟨_, rfl⟩
  rw [hx] at HC hne
  clear h hk hx
  have g1 : decide (t ≤ 0) = false := decide_eq_false ht
  have g2 : (t != x) = true := by simp [hne]
  go_enter Try.func34, Try.ntmps34
  go_wp2_with fail
  refine HC.out.mono ?_
  rintro e w1 ⟨rfl, rfl⟩
  go_wp2_with fail
  go_ret2
  exact ⟨rfl, rfl⟩
theorem cget_this (h : Ch w cb g c L) {k : Nat} {t : Int} (hk : k < L.length) (he : t = L[k].1) (ht : 0 < t) : Calls Try.prog 34 #[.pointer (some ⟨cb, 0, none⟩), .int .i64 (k : Int), .int .i64 t] w fun e w' => e = .returned (.tuple #[.int .i64 L[k].2, .bool true]) ∧ w = w' := by
  have HC := Lib.hid (clast_in h hk)
  have hcell := h.blk.cell 0
  simp only [List.getElem?_toArray, List.getElem?_cons_zero] at hcell
  obtain ⟨_, h1⟩ := h.at hk
  obtain ⟨y, hy⟩ : ∃ y, L[k].2 = y := ⟨_, rfl⟩
  rw [← he] at HC
  rw [hy] at h1 ⊢
  obtain ⟨n, hn⟩ : ∃ n, L.length = n := ⟨_, rfl⟩
  rw [hn] at hcell hk
  clear h he hy hn
  have g1 : decide (t ≤ 0) = false := decide_eq_false (by omega)
  have g2 : (t != t) = false := by simp
  go_enter Try.func34, Try.ntmps34
  go_wp2_with fail
  refine HC.out.mono ?_
  rintro e w1 ⟨rfl, rfl⟩
  go_wp2_with fail
  go_ret2
  exact ⟨rfl, rfl⟩
end
end Go.Proofs.Ytpjcedilkahpiaa
