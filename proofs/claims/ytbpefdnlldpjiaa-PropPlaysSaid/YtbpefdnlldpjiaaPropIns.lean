/- slices.Insert of one row into a table's rows. -/
import Derived.Test.YtbpefdnlldpjiaaProp1
import Derived.Test.YtbpefdnlldpjiaaCopyMid
import Derived.Test.YtbpefdnlldpjiaaApps
import Derived.Lib.Overlaps
namespace Go.Proofs.Ytbpefdnlldpjiaa
open Go.RowKit Go.Sort
set_option linter.unusedSimpArgs false

/-- Where a slice of rows has its rest. -/
def tail8 (A : Option Addr) (c k : Nat) : Option Addr := if c = k then A else A.map fun x => x.add (k * 8)
set_option maxRecDepth 100000 in
theorem rows_head {w : World} (A : Option Addr) {n c k : Nat} (h : k ≤ c) : (Instr.slice 62 (.slice A n c) none (some (.int .i64 k)) none).run Try.prog w = .ok (.slice A k c) w := by
  rw [run_slice_h w 62 A n c Try.underlying62 .i64 k (by omega) (by omega)]
  have : (sizeOf (Try.prog.elem 62)).run Try.prog w = .ok 8 w := by kernel_rfl
  rw [this]
  show Result.ok (sliced A 0 (k : Int).toNat c 8) w = _
  unfold sliced
  cases A with
  | none => simp
  | some a => simp [Addr.add]
set_option maxRecDepth 100000 in
theorem rows_tail {w : World} (A : Option Addr) {n c k : Nat} (h : k ≤ n) : (Instr.slice 62 (.slice A n c) (some (.int .i64 k)) none none).run Try.prog w = .ok (.slice (tail8 A c k) (n - k) (c - k)) w := by
  rw [run_slice_l w 62 A n c Try.underlying62 .i64 k (by omega) (by omega)]
  have : (sizeOf (Try.prog.elem 62)).run Try.prog w = .ok 8 w := by kernel_rfl
  rw [this]
  show Result.ok (sliced A (k : Int).toNat n c 8) w = _
  unfold sliced tail8
  simp
theorem tail8_in {g c k : Nat} (h : k < c) : tail8 (some ⟨g, 0, none⟩) c k = some ⟨g, k * 8, none⟩ := by
  unfold tail8
  rw [if_neg (by omega)]
  show some (Addr.add _ _) = _
  rw [addr_at]
theorem turn_many8 : ∀ (vs : List Value) (o : Nat) (w : World) (g : Nat), Turn (fun k => k = g) w (w.setCells g o vs)
  | [], _, w, _ => Turn.refl _ w
  | v :: vs, o, w, g => by
    have h1 : Turn (fun k => k = g) w (w.setCell ⟨g, o, none⟩ v) := (Turn.refl _ w).set_ ⟨g, o, none⟩ v rfl
    exact h1.trans (turn_many8 vs (o + 1) _ g)
theorem putAt_cells (L : List Tr) (k : Nat) (x : Tr) : trCells (putAt L k x) = (trCells L).take (k * 8) ++ x.cells ++ (trCells L).drop (k * 8) := by
  unfold putAt
  rw [trCells_app, trCells_take]
  show _ ++ (x.cells ++ trCells (L.drop k)) = _
  rw [trCells_drop, List.append_assoc]
theorem putAt_len {L : List Tr} {k : Nat} {x : Tr} (h : k ≤ L.length) : (putAt L k x).length = L.length + 1 := by
  unfold putAt
  rw [List.length_append, List.length_take, List.length_cons, List.length_drop]; omega
/-- What Insert leaves. -/
def InsPost (w : World) (v : Value) (n : Nat) (L : List Tr) (e : Ending) (w' : World) : Prop :=
  ∃ v', e = .returned v' ∧ w'.ownsRow 0 70 8 v' (n + 1) (trCells L) ∧ Turn (fun j => v.ownBlock = some j) w w' ∧ (v'.ownBlock = v.ownBlock ∨ ∃ g, v'.ownBlock = some g ∧ w.heap.size ≤ g)
set_option maxHeartbeats 1000000 in
theorem ins_end {w : World} {v : Value} {n vb : Nat} {L : List Tr} {x : Tr} (h : w.ownsRow 0 70 8 v n (trCells L)) (hn : L.length = n) (hm : n ≤ 16) (hv : Has w w.heap.size (some ⟨vb, 0, none⟩) x.cells) :
    Calls Try.prog 28 #[v, .int .i64 (n : Int), .slice (some ⟨vb, 0, none⟩) 1 1] w (InsPost w v n (putAt L n x)) := by
  obtain ⟨i0, hi0, hx0, hx1, hx2⟩ := info_parts info_row
  obtain ⟨A, c, rfl, hc1, hc2⟩ := own_slice h
  have R1 := fun (w : World) => rows_tail (w := w) A (n := n) (c := c) (k := n) (Nat.le_refl _)
  have HO := Lib.hid h
  have HV := Lib.hid hv
  have HL := Lib.hid hn
  have HOne := Lib.hid (trCells_one [x])
  have HM1 := Lib.hid (show n + 1 ≤ maxLen by unfold maxLen; omega)
  have HM2 := Lib.hid (show (n + 1) * 64 ≤ 140737488355328 by omega)
  have hne : ((n : Int) == (n : Int)) = true := by simp
  clear h hv hn hc2
  go_enter Try.func28, Try.ntmps28
  go_wp2_with (at_builtin; refine wpList_apps rfl _ _ 62 rfl 0 70 i0 _ 8 64 Try.underlying62 hi0 hx0 hx1 hx2 rfl (by decide) _ _ _ rfl HO.out _ (some ⟨vb, 0, none⟩) 1 1 (trCells [x]) rfl rfl HV.out (fun h => nomatch h) HOne.out HM1.out HM2.out (Nat.zero_le _) ?_)
  intro v2 w2 ho hg hb
  have HO2 := Lib.hid ho
  have HG := Lib.hid ((Turn.refl (fun j => (Value.slice A n c).ownBlock = some j) w).grown hg (fun k hk _ => hk))
  have HB := Lib.hid hb
  clear ho hg hb
  go_wp2_with fail
  go_ret
  refine ⟨_, rfl, ?_, HG.out, HB.out.elim Or.inl (fun h => Or.inr ⟨_, h, Nat.le_refl _⟩)⟩
  have := HO2.out
  rw [putAt_cells, List.take_of_length_le (by rw [trCells_len, HL.out]; exact Nat.le_refl _), List.drop_eq_nil_of_le (by rw [trCells_len, HL.out]; exact Nat.le_refl _), List.append_nil]
  exact this
theorem own_more8 {w : World} {b g n c s : Nat} {e : TypeId} {xs : List Value} (h : w.ownsRow b e s (.slice (some ⟨g, 0, none⟩) n c) n xs) (hm : n < c) : ∃ us, us.length = s ∧ w.ownsRow b e s (.slice (some ⟨g, 0, none⟩) (n + 1) c) (n + 1) (xs ++ us) := by
  obtain ⟨h1, h2⟩ := h
  rcases h2 with ⟨h2, _⟩ | ⟨g', cap, cur, hv, hg, hb, hc, hmx, hz, ht⟩
  · injection h2 with a; cases a
  · injection hv with a1 a2 a3
    injection a1 with a1
    injection a1 with a1
    subst a1 a3
    have hcs : (n + 1) * s ≤ cur.toList.length := by rw [Array.length_toList, hz]; exact Nat.mul_le_mul_right s hm
    have hs1 : (n + 1) * s = n * s + s := Nat.succ_mul n s
    refine ⟨(cur.toList.drop (n * s)).take s, by rw [List.length_take, List.length_drop]; omega, by rw [List.length_append, h1, List.length_take, List.length_drop]; omega, Or.inr ⟨g, c, cur, rfl, hg, hb, by omega, hmx, hz, ?_⟩⟩
    rw [← ht, hs1, List.take_add]
/-- One more put in, its row of the call's own: what was behind it goes on by one. -/
theorem own_put8 {w : World} {b g n c k : Nat} {e : TypeId} {L : List Tr} {x : Tr} (h : w.ownsRow b e 8 (.slice (some ⟨g, 0, none⟩) n c) n (trCells L)) (hl : L.length = n) (hc : n < c) (hk : k ≤ n) :
    ((w.setCells g ((k + 1) * 8) ((trCells L).drop (k * 8))).setCells g (k * 8) x.cells).ownsRow b e 8 (.slice (some ⟨g, 0, none⟩) (n + 1) c) (n + 1) (trCells (putAt L k x)) := by
  obtain ⟨us, hu, hm⟩ := own_more8 h hc
  have hxl : (trCells L).length = n * 8 := by rw [trCells_len, hl]
  obtain ⟨xs, hxs⟩ : ∃ xs, trCells L = xs := ⟨_, rfl⟩
  rw [putAt_cells]
  rw [hxs] at hm hxl ⊢
  have h1 := own_cells (o := (k + 1) * 8) (vs := xs.drop (k * 8)) hm (by rw [List.length_drop]; omega)
  have h2 := own_cells (o := k * 8) (vs := x.cells) h1 (by rw [tr_len]; omega)
  have e1 : ((xs ++ us).take ((k + 1) * 8) ++ xs.drop (k * 8) ++ (xs ++ us).drop ((k + 1) * 8 + (xs.drop (k * 8)).length)) = (xs ++ us).take ((k + 1) * 8) ++ xs.drop (k * 8) := by
    have h0 : (xs ++ us).drop ((k + 1) * 8 + (xs.drop (k * 8)).length) = [] := List.drop_eq_nil_of_le (by rw [List.length_append, List.length_drop]; omega)
    rw [h0, List.append_nil]
  rw [e1] at h2
  have e2 : (((xs ++ us).take ((k + 1) * 8) ++ xs.drop (k * 8)).take (k * 8) ++ x.cells ++ ((xs ++ us).take ((k + 1) * 8) ++ xs.drop (k * 8)).drop (k * 8 + x.cells.length)) = xs.take (k * 8) ++ x.cells ++ xs.drop (k * 8) := by
    rw [List.take_append_of_le_length (by rw [List.length_take, List.length_append]; omega), List.take_take, Nat.min_eq_left (by omega), List.take_append_of_le_length (by omega), tr_len, List.drop_left' (by rw [List.length_take, List.length_append]; omega)]
  rw [e2] at h2
  exact h2
set_option maxHeartbeats 2000000 in
theorem ins_room {w : World} {g n c k vb : Nat} {L : List Tr} {x : Tr} (h : w.ownsRow 0 70 8 (.slice (some ⟨g, 0, none⟩) n c) n (trCells L)) (hn : L.length = n) (hm : n ≤ 16) (hk : k < n) (hc : n < c) (hv : Blk w vb 70 x.cells.toArray) (hne : vb ≠ g) :
    Calls Try.prog 28 #[.slice (some ⟨g, 0, none⟩) n c, .int .i64 (k : Int), .slice (some ⟨vb, 0, none⟩) 1 1] w (InsPost w (.slice (some ⟨g, 0, none⟩) n c) n (putAt L k x)) := by
  have hblk : ∃ cur, Blk w g 70 cur ∧ cur.size ≠ 0 ∧ c * 8 ≤ cur.size := by
    rcases h.2 with ⟨h2, _⟩ | ⟨g', cap, cur, hv', hg, hb, hcc, hmx, hz, ht⟩
    · injection h2 with a; cases a
    · injection hv' with a1 a2 a3
      injection a1 with a1
      injection a1 with a1
      subst a1 a3
      exact ⟨cur, hb, by omega, by omega⟩
  obtain ⟨cur, hcb, hcs, hcs2⟩ := hblk
  have HF := Lib.hid (fun (w2 : World) (he : w2 = (w.drew.setCells g ((k + 1) * 8) ((trCells L).drop (k * 8))).setCells g (k * 8) x.cells) => show w2.ownsRow 0 70 8 (.slice (some ⟨g, 0, none⟩) (n + 1) c) (n + 1) (trCells (putAt L k x)) from he ▸ own_put8 (w := w.drew) h.drew hn hc (Nat.le_of_lt hk))
  have HTn := Lib.hid (fun (vs us : List Value) (o p : Nat) => show Turn (fun j => (Value.slice (some ⟨g, 0, none⟩) n c).ownBlock = some j) w ((w.drew.setCells g o vs).setCells g p us) from
    (((Turn.refl (fun j => j = g) w).drewN 1).trans ((turn_many8 vs o _ g).trans (turn_many8 us p _ g))).mono (fun j _ e => by rw [e]; rfl))
  have hxl : (trCells L).length = n * 8 := by rw [trCells_len, hn]
  have hov : ∀ lb cb, (callFunc 44 #[.slice (some ⟨vb, 0, none⟩) 1 1, .slice (some ⟨g, (k + 1) * 8, none⟩) lb cb]).run Try.prog w = .ok (.value (.bool false)) w := fun lb cb => by
    rw [run_callFunc_extern Try.func44 (by kernel_rfl) (by kernel_rfl) (by kernel_rfl) (e := Extern.SlicesOverlaps.overlaps #[62, 62] #[4]) (by kernel_rfl),
      Lib.run_overlaps_apart w 62 4 70 Try.underlying62 8 (fun w => by kernel_rfl) ⟨vb, 0, none⟩ ⟨g, (k + 1) * 8, none⟩ 1 1 lb cb hne 70 70 8 cur.size (by unfold World.shape?; rw [show w.heap[vb]? = _ from hv]; rfl) (by unfold World.shape?; rw [show w.heap[g]? = _ from hcb]) hcs (hv.frozen _) (hv.frozen _)]
    rfl
  have R1 : ∀ w, (Instr.slice 62 (.slice (some ⟨g, 0, none⟩) n c) (some (.int .i64 (k : Int))) none none).run Try.prog w = .ok (.slice (some ⟨g, k * 8, none⟩) (n - k) (c - k)) w := fun w => by rw [rows_tail (w := w) _ (Nat.le_of_lt hk), tail8_in (by omega)]
  have R2 : ∀ w, (Instr.slice 62 (.slice (some ⟨g, 0, none⟩) n c) none (some (.int .i64 ((n : Int) + 1))) none).run Try.prog w = .ok (.slice (some ⟨g, 0, none⟩) (n + 1) c) w := fun w => rows_head (w := w) _ (k := n + 1) (by omega)
  have R3 : ∀ w, (Instr.slice 62 (.slice (some ⟨g, 0, none⟩) (n + 1) c) (some (.int .i64 ((k : Int) + 1))) none none).run Try.prog w = .ok (.slice (some ⟨g, (k + 1) * 8, none⟩) (n - k) (c - (k + 1))) w := fun w => by
    have := rows_tail (w := w) (some ⟨g, 0, none⟩) (n := n + 1) (c := c) (k := k + 1) (by omega)
    rw [tail8_in (by omega), Nat.add_sub_add_right] at this
    exact this
  have R4 : ∀ w, (Instr.slice 62 (.slice (some ⟨g, 0, none⟩) (n + 1) c) (some (.int .i64 (k : Int))) none none).run Try.prog w = .ok (.slice (some ⟨g, k * 8, none⟩) (n + 1 - k) (c - k)) w := fun w => by
    rw [rows_tail (w := w) _ (n := n + 1) (by omega), tail8_in (by omega)]
  have hcell := has_rows h
  have HC1 := Lib.hid (show ∀ j v, ((trCells L).drop (k * 8))[j]? = some v → w.drew.cell? ((⟨g, k * 8, none⟩ : Addr).add j) = some v from fun j v hj => by
    rw [List.getElem?_drop] at hj
    obtain ⟨ad, e, _, hc⟩ := hcell _ _ hj
    cases e
    rw [Addr.add_mid]
    rw [addr_at] at hc
    exact hc)
  have HL1 := Lib.hid (show ((trCells L).drop (k * 8)).length = (n - k) * 8 by rw [List.length_drop, hxl]; omega)
  have HTh := Lib.hid (fun o m (hom : o + m ≤ c * 8) => show w.drew.there g o m from fun j hj => ⟨by rw [show w.drew.cell? _ = _ from hcb.cell (o + j), Array.getElem?_eq_getElem (by omega)]; rfl, hcb.frozen (o + j)⟩)
  have HO1 := Lib.hid (show ∀ v ∈ (trCells L).drop (k * 8), v.oneCell' = true from fun v hv => trCells_one L v (List.mem_of_mem_drop hv))
  have HLd := Lib.hid (show (k + 1) * 8 + ((trCells L).drop (k * 8)).length ≤ c * 8 by rw [List.length_drop, hxl]; omega)
  obtain ⟨ds, hds⟩ : ∃ ds, (trCells L).drop (k * 8) = ds := ⟨_, rfl⟩
  rw [hds] at HF HC1 HL1 HO1 HLd
  have HVc := Lib.hid (show ∀ j v, x.cells[j]? = some v → (w.drew.setCells g ((k + 1) * 8) ds).cell? ((⟨vb, 0, none⟩ : Addr).add j) = some v from fun j v hj => by
    rw [addr_at, World.cell?_setCells_out g _ _ _ _ (fun h _ => absurd h hne)]
    have := hv.cell j
    rw [show w.drew.cell? _ = _ from this]
    simpa using hj)
  have HTh2 := Lib.hid (show (w.drew.setCells g ((k + 1) * 8) ds).there g (k * 8) x.cells.length from World.there_setCells (HTh.out (k * 8) 8 (by omega)) _ _ _)
  have HXo := Lib.hid (show ∀ v ∈ x.cells, v.oneCell' = true from fun v hv => trCells_one [x] v (by simpa [trCells] using hv))
  have hz2 : ((k : Int) == (n : Int)) = false := by simp; omega
  have hz3 : decide ((c : Int) < (n : Int) + 1) = false := decide_eq_false (by omega)
  have hsz : (Try.prog.info? 70).map (·.size) = some 8 := by kernel_rfl
  obtain ⟨W1, hW1⟩ : ∃ W1, W1 = w.drew.setCells g ((k + 1) * 8) ds := ⟨_, rfl⟩
  rw [← hW1] at HVc HTh2
  have hcp1 : ∀ ty dc sc, (Builtin.copy_ #[62, 62] ty #[.slice (some ⟨g, (k + 1) * 8, none⟩) (n - k) dc, .slice (some ⟨g, k * 8, none⟩) (n + 1 - k) sc]).run Try.prog w.drew = .ok (goInt (n - k : Nat)) W1 := fun ty dc sc => by
    have := run_copy_mid (P := Try.prog) w.drew 62 62 ty 70 8 g ((k + 1) * 8) (n - k) dc ⟨g, k * 8, none⟩ (n + 1 - k) sc ds Try.underlying62 hsz (by rw [HL1.out]; simp only [Nat.min_def]; split <;> omega) HC1.out (HTh.out _ _ HLd.out) HO1.out
    rw [show Nat.min (n + 1 - k) (n - k) = n - k by simp only [Nat.min_def]; split <;> omega, ← hW1] at this
    exact this
  have hcp2 : ∀ ty dc, (Builtin.copy_ #[62, 62] ty #[.slice (some ⟨g, k * 8, none⟩) (n + 1 - k) dc, .slice (some ⟨vb, 0, none⟩) 1 1]).run Try.prog W1 = .ok (goInt (Nat.min 1 (n + 1 - k) : Nat)) (W1.setCells g (k * 8) x.cells) := fun ty dc =>
    run_copy_mid W1 _ _ ty 70 8 g (k * 8) (n + 1 - k) dc ⟨vb, 0, none⟩ 1 1 x.cells Try.underlying62 hsz (by rw [tr_len]; simp only [Nat.min_def]; split <;> omega) HVc.out HTh2.out HXo.out
  have HW1 := Lib.hid hW1
  clear h hn hv hcb hcs hcs2 hxl hcell hds hsz hW1
  go_enter Try.func28, Try.ntmps28
  have hw1 : IntKind.i64.wrap ((k : Int) + 1) = (k : Int) + 1 := by rw [IntKind.wrap_i64]; omega
  have hb1 : (0 : Int) ≤ (k : Int) + 1 := by omega
  have htn : ((k : Int) + 1).toNat = k + 1 := by omega
  have hb2 : ¬ (c = k + 1) := by omega
  have hb3 : (k : Int) ≤ (n : Int) := by omega
  have hb4 : ¬ (c = k) := by omega
  go_wp2_with fail
  go_region_law (fail)
  go_wp2_with fail
  go_ret
  exact ⟨_, rfl, HF.out _ (by rw [HW1.out]), by rw [HW1.out]; exact HTn.out _ _ _ _, Or.inl rfl⟩
theorem own_new8 {w : World} {e : TypeId} {n G s : Nat} {xs ds : Array Value} (hG : n ≤ G) (hm : G ≤ maxLen) (h1 : xs.size = n * s) (h2 : (xs ++ ds).size = G * s) : (w.alloc (.cells (xs ++ ds) e)).ownsRow w.heap.size e s (.slice (some ⟨w.heap.size, 0, none⟩) n G) n xs.toList := by
  refine ⟨by rw [Array.length_toList, h1], Or.inr ⟨w.heap.size, G, xs ++ ds, rfl, Nat.le_refl _, heap_alloc_new w _, hG, hm, h2, ?_⟩⟩
  rw [Array.toList_append, List.take_left' (by rw [Array.length_toList, h1])]
theorem grow_cells {n k : Nat} {us zs xc ds : List Value} (ha : us.length = k * 8) (hz : zs.length = (n + 1 - k) * 8) (hx : xc.length = 8) (hd : ds.length = (n - k) * 8) (hk : k < n) :
    (((us ++ zs).take (k * 8) ++ xc ++ (us ++ zs).drop (k * 8 + xc.length)).take ((k + 1) * 8) ++ ds ++ ((us ++ zs).take (k * 8) ++ xc ++ (us ++ zs).drop (k * 8 + xc.length)).drop ((k + 1) * 8 + ds.length)) = us ++ xc ++ ds := by
  rw [List.take_left' ha, List.take_left' (by rw [List.length_append, ha, hx]; omega), List.drop_eq_nil_of_le (by simp only [List.length_append, List.length_drop]; omega), List.append_nil]
set_option maxHeartbeats 2000000 in
theorem ins_grow {w : World} {g n k vb : Nat} {L : List Tr} {x : Tr} (h : w.ownsRow 0 70 8 (.slice (some ⟨g, 0, none⟩) n n) n (trCells L)) (hn : L.length = n) (hm : n ≤ 16) (hk : k < n) (hv : Blk w vb 70 x.cells.toArray) :
    Calls Try.prog 28 #[.slice (some ⟨g, 0, none⟩) n n, .int .i64 (k : Int), .slice (some ⟨vb, 0, none⟩) 1 1] w (InsPost w (.slice (some ⟨g, 0, none⟩) n n) n (putAt L k x)) := by
  obtain ⟨i0, hi0, hx0, hx1, hx2⟩ := info_parts info_row
  have hxl : (trCells L).length = n * 8 := by rw [trCells_len, hn]
  have hcell := has_rows h
  have hgl : g < w.heap.size := (h.lt g rfl).2
  obtain ⟨m, hmk⟩ : ∃ m, n + 1 - k = m := ⟨_, rfl⟩
  have hap := run_append_fill (P := Try.prog) (w := w) 62 3 62 70 i0 _ .i64 Try.underlying62 Try.underlying3 hi0 hx0 ⟨g, 0, none⟩ k n ((trCells L).take (k * 8))
    (by rw [hx1, List.length_take, hxl]; omega) (fun j v hj => by
      rw [List.getElem?_take] at hj
      split at hj
      · obtain ⟨ad, e, _, hc⟩ := hcell _ _ hj
        cases e
        exact hc
      · cases hj) m (by omega) (by omega) (by omega) (by omega) (by rw [hx2]; omega) (by rw [hx2]; exact growslice_fits (by omega) (by omega))
  rw [show k + m = n + 1 by omega] at hap
  have hG1 := grownCap_ge w (n + 1) n 70
  have hG2 := grownCap_le_maxLen w (n + 1) n 70 (by unfold maxLen; omega)
  obtain ⟨G, hG⟩ : ∃ G, grownCap w (n + 1) n 70 = G := ⟨_, rfl⟩
  rw [hG] at hap hG1 hG2
  obtain ⟨zs, hzs⟩ : ∃ zs, Builtin.zeroCells (Value.agg #[.int .i64 0, .int .i64 0, .int .i64 0, .int .i64 0, .int .i64 0, .int .i64 0, .int .u16 0, .int .i64 0]).cells m = zs := ⟨_, rfl⟩
  obtain ⟨ys, hys⟩ : ∃ ys, Builtin.zeroCells (Value.agg #[.int .i64 0, .int .i64 0, .int .i64 0, .int .i64 0, .int .i64 0, .int .i64 0, .int .u16 0, .int .i64 0]).cells (G - (n + 1)) = ys := ⟨_, rfl⟩
  have hzl : zs.size = m * 8 := by rw [← hzs, zeroCells_size]; rfl
  have hyl : ys.size = (G - (n + 1)) * 8 := by rw [← hys, zeroCells_size]; rfl
  rw [hzs, hys] at hap
  have ho0 : (w.drew.alloc (.cells (((trCells L).take (k * 8)).toArray ++ zs ++ ys) 70)).ownsRow w.heap.size 70 8 (.slice (some ⟨w.heap.size, 0, none⟩) (n + 1) G) (n + 1) ((trCells L).take (k * 8) ++ zs.toList) := by
    have h9 := own_new8 (w := w.drew) (e := 70) (s := 8) (xs := ((trCells L).take (k * 8)).toArray ++ zs) (ds := ys) hG1 hG2 (by rw [Array.size_append, hzl, List.size_toArray, List.length_take, hxl]; omega) (by rw [Array.size_append, Array.size_append, hzl, hyl, List.size_toArray, List.length_take, hxl]; omega)
    rw [Array.toList_append] at h9
    exact h9
  have hb0 : Below w.heap.size w (w.drew.alloc (.cells (((trCells L).take (k * 8)).toArray ++ zs ++ ys) 70)) := (⟨rfl, rfl, rfl, Nat.le_refl _, fun _ _ => rfl⟩ : Below w.heap.size w w.drew).alloc (Nat.le_refl _) _
  obtain ⟨W0, hW0⟩ : ∃ W0, W0 = w.drew.alloc (.cells (((trCells L).take (k * 8)).toArray ++ zs ++ ys) 70) := ⟨_, rfl⟩
  rw [← hW0] at hap ho0 hb0
  obtain ⟨g2, hg2⟩ : ∃ g2, w.heap.size = g2 := ⟨_, rfl⟩
  rw [hg2] at hap ho0
  have hgl2 : g2 < W0.heap.size := (ho0.lt g2 rfl).2
  obtain ⟨ds, hds⟩ : ∃ ds, (trCells L).drop (k * 8) = ds := ⟨_, rfl⟩
  have hdl : ds.length = (n - k) * 8 := by rw [← hds, List.length_drop, hxl]; omega
  have hsz : (Try.prog.info? 70).map (·.size) = some 8 := by kernel_rfl
  have hthere : ∀ o q, o + q ≤ (n + 1) * 8 → W0.there g2 o q := fun o q hq => own_there ho0 hq
  have h1 := own_cells (o := k * 8) (vs := x.cells) ho0 (by rw [tr_len]; omega)
  have hvc : ∀ j v, x.cells[j]? = some v → W0.cell? ((⟨vb, 0, none⟩ : Addr).add j) = some v := fun j v hj => by
    rw [addr_at, World.cell?_of_block (a := ⟨vb, j, none⟩) (hb0.block vb hv.lt), hv.cell j]
    simpa using hj
  obtain ⟨W1, hW1⟩ : ∃ W1, W1 = W0.setCells g2 (k * 8) x.cells := ⟨_, rfl⟩
  have hcp1 : ∀ ty dc, (Builtin.copy_ #[62, 62] ty #[.slice (some ⟨g2, k * 8, none⟩) (n + 1 - k) dc, .slice (some ⟨vb, 0, none⟩) 1 1]).run Try.prog W0 = .ok (goInt (Nat.min 1 (n + 1 - k) : Nat)) W1 := fun ty dc => by
    have := run_copy_mid (P := Try.prog) W0 62 62 ty 70 8 g2 (k * 8) (n + 1 - k) dc ⟨vb, 0, none⟩ 1 1 x.cells Try.underlying62 hsz (by rw [tr_len]; simp only [Nat.min_def]; split <;> omega) hvc (hthere _ _ (by rw [tr_len]; omega)) (fun v hv => trCells_one [x] v (by simpa [trCells] using hv))
    rw [← hW1] at this
    exact this
  have hne : g ≠ g2 := by omega
  have hsrc : ∀ j v, ds[j]? = some v → W1.drew.cell? ((⟨g, k * 8, none⟩ : Addr).add j) = some v := fun j v hj => by
    rw [← hds, List.getElem?_drop] at hj
    obtain ⟨ad, e, _, hc⟩ := hcell _ _ hj
    cases e
    rw [addr_at] at hc
    show W1.cell? _ = _
    rw [Addr.add_mid, hW1, World.cell?_setCells_out g2 _ _ _ _ (fun h _ => absurd h hne), World.cell?_of_block (a := ⟨g, k * 8 + j, none⟩) (hb0.block g hgl)]
    exact hc
  have hcp2 : ∀ ty dc sc, (Builtin.copy_ #[62, 62] ty #[.slice (some ⟨g2, (k + 1) * 8, none⟩) (n - k) dc, .slice (some ⟨g, k * 8, none⟩) (n - k) sc]).run Try.prog W1.drew = .ok (goInt (n - k : Nat)) (W1.drew.setCells g2 ((k + 1) * 8) ds) := fun ty dc sc => by
    have hth0 : W1.there g2 ((k + 1) * 8) ds.length := by
      rw [hW1]
      exact World.there_setCells (hthere _ _ (by rw [hdl]; omega)) _ _ _
    have hth : W1.drew.there g2 ((k + 1) * 8) ds.length := hth0
    have := run_copy_mid (P := Try.prog) W1.drew 62 62 ty 70 8 g2 ((k + 1) * 8) (n - k) dc ⟨g, k * 8, none⟩ (n - k) sc ds Try.underlying62 hsz (by rw [hdl]; simp only [Nat.min_def]; split <;> omega) hsrc hth (fun v hv => trCells_one L v (List.mem_of_mem_drop (hds ▸ hv)))
    rw [show Nat.min (n - k) (n - k) = n - k by simp only [Nat.min_def]; split <;> omega] at this
    exact this
  have HF := Lib.hid (show (W1.drew.setCells g2 ((k + 1) * 8) ds).ownsRow 0 70 8 (.slice (some ⟨g2, 0, none⟩) (n + 1) G) (n + 1) (trCells (putAt L k x)) from by
    rw [← hW1] at h1
    have h2 := own_cells (o := (k + 1) * 8) (vs := ds) h1.drew (by rw [hdl]; omega)
    rw [putAt_cells, hds]
    rw [grow_cells (n := n) (k := k) (by rw [List.length_take, hxl]; omega) (by simp [hzl]; omega) (tr_len x) hdl hk] at h2
    refine ⟨h2.1, ?_⟩
    rcases h2.2 with hh | ⟨a, b, d, e1, e2, e3⟩
    · exact Or.inl hh
    · exact Or.inr ⟨a, b, d, e1, Nat.zero_le _, e3⟩)
  have HB := Lib.hid (show Below w.heap.size w (W1.drew.setCells g2 ((k + 1) * 8) ds) from by
    have h0 : Below w.heap.size w W1 := by
      rw [hW1]
      exact below_many x.cells hb0 (by omega)
    have h2 : Below w.heap.size w W1.drew := h0.trans ⟨rfl, rfl, rfl, Nat.le_refl _, fun _ _ => rfl⟩
    exact below_many ds h2 (by omega))
  have R1 : ∀ w, (Instr.slice 62 (.slice (some ⟨g, 0, none⟩) n n) (some (.int .i64 (k : Int))) none none).run Try.prog w = .ok (.slice (some ⟨g, k * 8, none⟩) (n - k) (n - k)) w := fun w => by rw [rows_tail (w := w) _ (Nat.le_of_lt hk), tail8_in hk]
  have R2 : ∀ w, (Instr.slice 62 (.slice (some ⟨g, 0, none⟩) n n) none (some (.int .i64 (k : Int))) none).run Try.prog w = .ok (.slice (some ⟨g, 0, none⟩) k n) w := fun w => rows_head (w := w) _ (k := k) (by omega)
  have R3 : ∀ w, (Instr.slice 62 (.slice (some ⟨g2, 0, none⟩) (n + 1) G) (some (.int .i64 (k : Int))) none none).run Try.prog w = .ok (.slice (some ⟨g2, k * 8, none⟩) (n + 1 - k) (G - k)) w := fun w => by
    rw [rows_tail (w := w) _ (n := n + 1) (by omega), tail8_in (by omega)]
  have hki : ((n : Int) + 1 - (k : Int)) = (m : Int) := by omega
  have hz2 : ((k : Int) == (n : Int)) = false := by simp; omega
  have hz3 : decide ((n : Int) < (n : Int) + 1) = true := decide_eq_true (by omega)
  have HG2 := Lib.hid hg2
  have HBl := Lib.hid (show w.heap.size ≤ g2 by omega)
  clear h hn hv hxl hcell hgl hmk hG hzs hys hzl hyl ho0 hb0 hW0 hgl2 hds hdl hsz hthere h1 hvc hW1 hsrc hi0 hx0 hx1 hx2 hg2
  have hw1 : IntKind.i64.wrap ((k : Int) + 1) = (k : Int) + 1 := by rw [IntKind.wrap_i64]; omega
  have hb1 : (0 : Int) ≤ (k : Int) + 1 := by omega
  have htn : ((k : Int) + 1).toNat = k + 1 := by omega
  have hb2 : ¬ (G = k + 1) := by omega
  have hb3 : (k : Int) ≤ (n : Int) := by omega
  have hb4 : ¬ (n = k) := by omega
  have hb5 : (k : Int) + 1 ≤ (n : Int) + 1 := by omega
  go_enter Try.func28, Try.ntmps28
  have HAP := Lib.hid hap
  clear hap
  go_wp2_with (at_builtin; refine wpList_append_run rfl (.tmp 34) (.tmp 39) 62 3 rfl HAP.out rfl rfl ?_)
  go_region_law (fail)
  go_wp2_with fail
  go_ret
  exact ⟨_, rfl, HF.out, Turn.of_below HB.out, Or.inr ⟨g2, rfl, HBl.out⟩⟩
theorem pins_any {w : World} {v : Value} {n k vb : Nat} {L : List Tr} {x : Tr} (h : w.ownsRow 0 70 8 v n (trCells L)) (hn : L.length = n) (hm : n ≤ 16) (hk : k ≤ n) (hv : Blk w vb 70 x.cells.toArray) (hne : v.ownBlock ≠ some vb) :
    Calls Try.prog 28 #[v, .int .i64 (k : Int), .slice (some ⟨vb, 0, none⟩) 1 1] w (InsPost w v n (putAt L k x)) := by
  by_cases e : k = n
  · subst e
    exact ins_end h hn hm (by have := hv.has hv.lt; simpa using this)
  · obtain ⟨g, c, rfl, hcn, _⟩ : ∃ g c, v = .slice (some ⟨g, 0, none⟩) n c ∧ n ≤ c ∧ True := by
      rcases h.2 with ⟨rfl, h0⟩ | ⟨g, cap, cur, rfl, _, _, hc, _⟩
      · omega
      · exact ⟨g, cap, rfl, hc, trivial⟩
    by_cases ec : c = n
    · subst ec
      exact ins_grow h hn hm (by omega) hv
    · exact ins_room h hn hm (by omega) (by omega) hv (fun e => hne (by rw [e]; rfl))
end Go.Proofs.Ytbpefdnlldpjiaa
