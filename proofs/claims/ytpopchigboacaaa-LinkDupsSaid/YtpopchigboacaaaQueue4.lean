/- The contracts of package link, fourth part: Take, Insert, Move, Clone. -/
import Derived.Test.YtpopchigboacaaaQueue3
import Derived.Deep.RegionHeld3
import Derived.StillTailTactics
namespace Go.Proofs.Ytpopchigboacaaa
open Go.RowKit Go.Sort

theorem cut_good {L : List (List Int)} {k : Nat} (h : ∀ z ∈ L, By z) : ∀ z ∈ cutL L k, By z := fun z hz => h z (cutL_mem hz)
set_option maxHeartbeats 1000000 in
set_option maxRecDepth 100000 in
theorem qtake_in {R : Nat → Prop} {w : World} {qb : Nat} {room lost : Int} {L : List (List Int)} (h : Qu R w qb room lost L) {k : Nat} (hk : k < L.length) :
    Calls Try.prog 17 #[.pointer (some ⟨qb, 0, none⟩), .int .i64 k] w fun e w' => ∃ c, e = .returned (.tuple #[.slice (some ⟨w.heap.size, 0, none⟩) L[k].length c, .bool true]) ∧ Bytes w' w.heap.size L[k] ∧ Qu R w' qb room lost (cutL L k) ∧ Turn (QZ R w) w w' ∧ w.heap.size < w'.heap.size := by
  have HC := Lib.hid (qpeek_in h hk)
  have HQ := Lib.hid h
  obtain ⟨v, hb, ho, hzn⟩ := h.ex
  obtain ⟨g, c, rfl, hlc, hcm, hgl, -⟩ := own_str ho hk
  have hqg : qb ≠ g := fun e => own_blk_ne ho hb (by decide) (by rw [e]; rfl)
  have HQG := Lib.hid hqg
  have HZ := Lib.hid hzn
  have HQZ := Lib.hid (fun k hk => qz_in (k := k) h.zone hb ho hzn hk)
  obtain ⟨z, hzk⟩ : ∃ z, L[k] = z := ⟨_, rfl⟩
  rw [hzk] at HC ⊢
  have HKL := Lib.hid hk
  have HB := Lib.hid hb
  have HO := Lib.hid ho
  have HLT := Lib.hid h.lt
  have HGL := Lib.hid hgl
  have hk9 : (k : Int) + 1 ≤ 1000000 := by have := h.len; have := h.r2; omega
  clear h hb ho hzn hgl hqg hzk hk
  go_enter Try.func17, Try.ntmps17
  go_wp2_with fail
  refine HC.out.mono ?_
  rintro e w1 ⟨c1, rfl, hby, hbel, hsz⟩
  have HSZ := Lib.hid hsz
  clear hsz
  have hb1 := HB.out.below hbel HLT.out
  have ho1 : w1.ownsRow 0 9 1 (.slice (some ⟨g, 0, none⟩) L.length c) L.length (L.map strV) := below_own HO.out hbel (Nat.le_refl _)
  obtain ⟨n, hn⟩ : ∃ n, L.length = n := ⟨_, rfl⟩
  have HD := Lib.hid (qdel_any ho1 HKL.out)
  have HCL := Lib.hid (cutL_len HKL.out)
  rw [hn] at hb1 HD HCL HQZ
  have HLN := Lib.hid hn
  clear hlc hcm ho1 hn
  have hc1 := hb1.cell 1
  simp only [List.getElem?_toArray, List.getElem?_cons_zero, List.getElem?_cons_succ] at hc1
  have HB1 := Lib.hid hb1
  have HBY := Lib.hid hby
  have HBL := Lib.hid hbel
  clear hb1 hby hbel
  go_wp2_with fail
  refine HD.out.mono ?_
  rintro e w2 ⟨rfl, ho2, ht2, -⟩
  have hb2 : Blk w2 qb 54 #[.int .i64 room, .slice (some ⟨g, 0, none⟩) n c, .int .i64 lost] := ht2.blk HB1.out HQG.out
  have hf2 := hb2.frozen 1
  have hd2 := hb2.cell 1
  simp only [List.getElem?_toArray, List.getElem?_cons_zero, List.getElem?_cons_succ] at hd2
  have ho3 : (w2.setCell ⟨qb, 1, none⟩ (.slice (some ⟨g, 0, none⟩) (n - 1) c)).ownsRow 0 9 1 (.slice (some ⟨g, 0, none⟩) (n - 1) c) (n - 1) ((cutL L k).map strV) := own_far ho2 (fun e => HQG.out (Option.some.inj e).symm) _
  have htq : Turn (fun k => k = g ∨ k = qb) w1 (w2.setCell ⟨qb, 1, none⟩ (.slice (some ⟨g, 0, none⟩) (n - 1) c)) := (ht2.mono (fun k _ h => Or.inl h)).set_ _ _ (Or.inr rfl)
  have HFin := Lib.hid (show Qu R (w2.setCell ⟨qb, 1, none⟩ (.slice (some ⟨g, 0, none⟩) (n - 1) c)) qb room lost (cutL L k) from
    ⟨HQ.out.zone, HQ.out.r1, HQ.out.r2, by rw [HCL.out]; have := HQ.out.len; have := HLN.out; omega, cut_good HQ.out.good, _, hb2.set_ 1 _, by rw [HCL.out]; exact ho3, fun g' hg => HZ.out g' hg⟩)
  have HT := Lib.hid (show Turn (QZ R w) w (w2.setCell ⟨qb, 1, none⟩ (.slice (some ⟨g, 0, none⟩) (n - 1) c)) from
    (Turn.of_below HBL.out).trans (htq.mono (fun k _ h => h.elim (fun e => HQZ.out k (Or.inr (by rw [e]; rfl))) (fun e => HQZ.out k (Or.inl e)))))
  have hne : ∀ x : Nat, x < w.heap.size → w.heap.size ≠ x := fun x hx e => by omega
  have HBf := Lib.hid (show Bytes (w2.setCell ⟨qb, 1, none⟩ (.slice (some ⟨g, 0, none⟩) (n - 1) c)) w.heap.size z from
    ⟨htq.has HBY.out.has (fun ad e => by cases e; exact fun h => h.elim (hne _ HGL.out) (hne _ HLT.out)),
      fun j hj => (World.frozen?_of_block (htq.block w.heap.size HSZ.out (fun h => h.elim (hne _ HGL.out) (hne _ HLT.out)))).trans (HBY.out.soft j hj),
      HBY.out.row.elim fun cs h => h.elim fun fr h => ⟨cs, fr, (htq.block w.heap.size HSZ.out (fun h => h.elim (hne _ HGL.out) (hne _ HLT.out))).trans h⟩⟩)
  have HS2 := Lib.hid (show w.heap.size < (w2.setCell ⟨qb, 1, none⟩ (.slice (some ⟨g, 0, none⟩) (n - 1) c)).heap.size by have := htq.size; have := HSZ.out; omega)
  clear hb2 ho2 ho3 ht2 htq hne hk9
  go_wp2_with fail
  go_ret2
  exact ⟨_, rfl, HBf.out, HFin.out, HT.out, HS2.out⟩
set_option maxHeartbeats 400000 in
theorem qtake_out {R : Nat → Prop} {w : World} {qb : Nat} {room lost : Int} {L : List (List Int)} (h : Qu R w qb room lost L) {k : Int} (hk : hasB L k = false) :
    Calls Try.prog 17 #[.pointer (some ⟨qb, 0, none⟩), .int .i64 k] w fun e w' => e = .returned (.tuple #[.slice none 0 0, .bool false]) ∧ w = w' := by
  have HC := Lib.hid (qpeek_out h hk)
  clear h hk
  go_enter Try.func17, Try.ntmps17
  go_wp2_with fail
  refine HC.out.mono ?_
  rintro e w' ⟨rfl, rfl⟩
  go_wp2_with fail
  go_ret2
  exact ⟨rfl, rfl⟩

/-! ### Insert -/
def putL {α : Type} (L : List α) (k : Nat) (x : α) : List α := L.take k ++ [x] ++ L.drop k
theorem putL_len {α : Type} {L : List α} {k : Nat} {x : α} (h : k ≤ L.length) : (putL L k x).length = L.length + 1 := by simp [putL]; omega
theorem putL_map {α β : Type} (f : α → β) (L : List α) (k : Nat) (x : α) : (putL L k x).map f = putL (L.map f) k (f x) := by simp [putL, List.map_take, List.map_drop]
theorem turn_many : ∀ (vs : List Value) (o : Nat) (w : World) (g : Nat), Turn (fun k => k = g) w (w.setCells g o vs)
  | [], _, w, _ => Turn.refl _ w
  | v :: vs, o, w, g => by
    have h1 : Turn (fun k => k = g) w (w.setCell ⟨g, o, none⟩ v) := (Turn.refl _ w).set_ ⟨g, o, none⟩ v rfl
    exact h1.trans (turn_many vs (o + 1) _ g)
theorem size_many : ∀ (vs : List Value) (o : Nat) (w : World) (g : Nat), (w.setCells g o vs).heap.size = w.heap.size
  | [], _, _, _ => rfl
  | v :: vs, o, w, g => by rw [World.setCells, size_many vs (o + 1) _ g]; simp
/-- One more put in, its row of the call's own. -/
theorem own_put {w : World} {b g n c k : Nat} {e : TypeId} {xs : List Value} (h : w.ownsRow b e 1 (.slice (some ⟨g, 0, none⟩) n c) n xs) (hc : n < c) (hk : k ≤ n) (u : Value) :
    ((w.setCells g (k + 1) (xs.drop k)).setCells g k [u]).ownsRow b e 1 (.slice (some ⟨g, 0, none⟩) (n + 1) c) (n + 1) (putL xs k u) := by
  obtain ⟨t, hm⟩ := own_more h hc
  have hl : xs.length = n := by simpa using h.1
  have h1 := own_cells (o := k + 1) (vs := xs.drop k) hm (by simp; omega)
  have h2 := own_cells (o := k) (vs := [u]) h1 (by simp; omega)
  have e1 : ((xs ++ [t]).take (k + 1) ++ xs.drop k ++ (xs ++ [t]).drop (k + 1 + (xs.drop k).length)) = (xs ++ [t]).take (k + 1) ++ xs.drop k := by
    have h0 : (xs ++ [t]).drop (k + 1 + (xs.drop k).length) = [] := List.drop_eq_nil_of_le (by simp; omega)
    rw [h0, List.append_nil]
  rw [e1] at h2
  have e2 : (((xs ++ [t]).take (k + 1) ++ xs.drop k).take k ++ [u] ++ ((xs ++ [t]).take (k + 1) ++ xs.drop k).drop (k + [u].length)) = putL xs k u := by
    unfold putL
    rw [List.take_append_of_le_length (by simp; omega), List.take_take, Nat.min_eq_left (by omega), List.take_append_of_le_length (by omega), List.length_singleton, List.drop_left' (by simp; omega)]
  rw [e2] at h2
  exact h2
theorem qins_any {w : World} {g n c vb k : Nat} {xs : List Value} {s : ByteArray} (h : w.ownsRow 0 9 1 (.slice (some ⟨g, 0, none⟩) n c) n xs) (h1 : ∀ u ∈ xs, u.oneCell' = true) (hc : n < c) (hk : k ≤ n) (hv : Blk w vb 9 #[.string s]) (hne : vb ≠ g) :
    Calls Try.prog 26 #[.slice (some ⟨g, 0, none⟩) n c, .int .i64 k, .slice (some ⟨vb, 0, none⟩) 1 1] w fun e w' => e = .returned (.slice (some ⟨g, 0, none⟩) (n + 1) c) ∧ w'.ownsRow 0 9 1 (.slice (some ⟨g, 0, none⟩) (n + 1) c) (n + 1) (putL xs k (.string s)) ∧ Turn (fun k => k = g) w w' ∧ w'.heap.size = w.heap.size := by
  have hl : xs.length = n := by simpa using h.1
  have h' := h
  obtain ⟨_, h2⟩ := h'
  rcases h2 with ⟨h2, _⟩ | ⟨g', cap, cur, hv', hg, hb, hcc, hmx, hz, ht⟩
  · injection h2 with a; cases a
  · injection hv' with a1 a2 a3
    injection a1 with a1
    injection a1 with a1
    subst a1 a3
    have hblk : Blk w g 9 cur := hb
    have hvs : ∀ j v, [Value.string s][j]? = some v → w.cell? ⟨vb, 0 + j, none⟩ = some v := fun j v hj => by
      match j, hj with
      | 0, hj =>
        have : Value.string s = v := by simpa using hj
        rw [hv.cell, ← this]; rfl
    have h1v : ∀ u ∈ [Value.string s], u.oneCell' = true := by simp; rfl
    have hcells : ∀ j v, xs[j]? = some v → w.cell? ⟨g, j, none⟩ = some v := fun j v hj => by
      have := h.cells (g := g) rfl j v hj
      rwa [addr_at] at this
    have hthere : ∀ j, j < c → (w.cell? ⟨g, j, none⟩).isSome = true := fun j hj => by
      rw [hblk.cell, Array.getElem?_eq_getElem (by omega)]; rfl
    have hmx' : c ≤ 9223372036854775807 := by unfold maxLen at hmx; omega
    by_cases hkn : k < n
    · have HC := Any2.slices_Insert_string_shift insStr g 0 n c k vb 0 1 1 xs [.string s] w hkn (by omega) (by omega) hmx' hne hl rfl
        (fun j v hj => by rw [Nat.zero_add]; exact hcells j v hj) (fun j hj => by rw [Nat.zero_add]; exact hthere j (by omega)) (fun j _ => hblk.frozen _) hvs h1 h1v
        9 9 1 cur.size (by unfold World.shape?; rw [show w.heap[vb]? = _ from hv]; rfl) (by unfold World.shape?; rw [hb]) (by omega) (hv.frozen _) (hv.frozen _)
      refine Calls.mono (HC : Calls Try.prog 26 #[.slice (some ⟨g, 0, none⟩) n c, .int .i64 k, .slice (some ⟨vb, 0, none⟩) 1 1] w _) ?_
      rintro e w' ⟨he, rfl⟩
      rw [Nat.zero_add, Nat.zero_add]
      refine ⟨he, own_put (w := w.drew) ?_ hc hk _, ((Turn.refl _ w).drewN 1).trans ((turn_many _ _ _ _).trans (turn_many _ _ _ _)), by rw [size_many, size_many]; rfl⟩
      exact h.drew
    · obtain rfl : k = n := by omega
      have HC := Any2.slices_Insert_string_end_room insStr g 0 k c vb 0 1 1 [.string s] w (by omega) (by omega) hmx' rfl
        (fun j hj => by rw [Nat.zero_add]; exact hthere _ (by omega)) (fun j _ => hblk.frozen _) hvs h1v
      refine Calls.mono (HC : Calls Try.prog 26 #[.slice (some ⟨g, 0, none⟩) k c, .int .i64 k, .slice (some ⟨vb, 0, none⟩) 1 1] w _) ?_
      rintro e w' ⟨he, rfl⟩
      rw [Nat.zero_add]
      have hp := own_put (k := k) h hc (Nat.le_refl _) (.string s)
      rw [List.drop_eq_nil_of_le (by omega)] at hp
      exact ⟨he, hp, turn_many _ _ _ _, size_many _ _ _ _⟩

set_option maxHeartbeats 1000000 in
set_option maxRecDepth 100000 in
theorem qmove_in {R : Nat → Prop} {w : World} {qb : Nat} {room lost : Int} {L : List (List Int)} (h : Qu R w qb room lost L) {k dt : Nat} (hk : k < L.length) (ht : dt < L.length) :
    Calls Try.prog 10 #[.pointer (some ⟨qb, 0, none⟩), .int .i64 k, .int .i64 dt] w fun e w' => e = .returned (.bool true) ∧ Qu R w' qb room lost (putL (cutL L k) dt L[k]) ∧ Turn (QZ R w) w w' := by
  have HK := Lib.hid (qhas_any h k)
  have HT := Lib.hid (qhas_any h dt)
  rw [hasB_in hk] at HK
  rw [hasB_in ht] at HT
  have HQ := Lib.hid h
  obtain ⟨v, hb, ho, hzn⟩ := h.ex
  obtain ⟨g, c, rfl, hlc, hcm, hgl, hcell⟩ := own_str ho hk
  have hqg : qb ≠ g := fun e => own_blk_ne ho hb (by decide) (by rw [e]; rfl)
  have HD := Lib.hid (qdel_any ho hk)
  have HM := Lib.hid (show ((cutL L k).map strV).length = L.length - 1 by rw [List.length_map, cutL_len hk])
  have HLL := Lib.hid (show (putL (cutL L k) dt L[k]).length = L.length by rw [putL_len (by rw [cutL_len hk]; omega), cutL_len hk]; omega)
  have HGG := Lib.hid (show ∀ y ∈ putL (cutL L k) dt L[k], By y from fun y hy => by
    unfold putL at hy
    rcases List.mem_append.1 hy with hy | hy
    · rcases List.mem_append.1 hy with hy | hy
      · exact cut_good h.good y (List.mem_of_mem_take hy)
      · rw [List.mem_singleton.1 hy]; exact h.good _ (List.getElem_mem hk)
    · exact cut_good h.good y (List.mem_of_mem_drop hy))
  have HMP := Lib.hid (show (putL (cutL L k) dt L[k]).map strV = putL ((cutL L k).map strV) dt (.string (strOfNums L[k])) from putL_map _ _ _ _)
  obtain ⟨L', hL'⟩ : ∃ L', putL (cutL L k) dt L[k] = L' := ⟨_, rfl⟩
  obtain ⟨s, hs⟩ : ∃ s, strOfNums L[k] = s := ⟨_, rfl⟩
  rw [hL'] at HLL HGG HMP ⊢
  rw [hs] at HMP hcell
  have HONE := Lib.hid (strs_one (cutL L k))
  obtain ⟨X, hX⟩ : ∃ X, (cutL L k).map strV = X := ⟨_, rfl⟩
  rw [hX] at HM HMP HD HONE
  have HQG := Lib.hid hqg
  have HZ := Lib.hid hzn
  have HQZ := Lib.hid (fun k hk => qz_in (k := k) h.zone hb ho hzn hk)
  have HB := Lib.hid hb
  have HLT := Lib.hid h.lt
  have HGL := Lib.hid hgl
  obtain ⟨n, hn⟩ : ∃ n, L.length = n := ⟨_, rfl⟩
  rw [hn] at hk ht hlc HD HM HLL HB HQZ
  have HLN := Lib.hid hn
  have HKN := Lib.hid (show dt ≤ n - 1 by omega)
  have HNC := Lib.hid (show n - 1 < c by omega)
  have HN1 := Lib.hid (show n - 1 + 1 = n by omega)
  have hk9 : (k : Int) + 1 ≤ 1000000 := by have := h.len; have := h.r2; omega
  have hc := hb.cell 1
  simp only [List.getElem?_toArray, List.getElem?_cons_zero, List.getElem?_cons_succ] at hc
  rw [hn] at hc
  clear h hb ho hzn hgl hqg hL' hs hX hn
  go_enter Try.func10, Try.ntmps10
  go_wp2_with fail
  refine HK.out.mono ?_
  rintro e w1 ⟨rfl, rfl⟩
  go_wp2_with fail
  refine HT.out.mono ?_
  rintro e w1 ⟨rfl, rfl⟩
  go_wp2_with fail
  refine HD.out.mono ?_
  rintro e w2 ⟨rfl, ho2, ht2, hs2⟩
  have hb2 : Blk w2 qb 54 #[.int .i64 room, .slice (some ⟨g, 0, none⟩) n c, .int .i64 lost] := ht2.blk HB.out HQG.out
  have HI := Lib.hid (qins_any (w := w2.alloc (.cells #[.string s] 9)) (vb := w2.heap.size) (s := s) (ho2.alloc _) HONE.out HNC.out HKN.out (Blk.new _ _ _) (by have := HGL.out; omega))
  have HB2 := Lib.hid hb2
  have HT2 := Lib.hid ht2
  have HS2 := Lib.hid hs2
  clear hb2 ho2 ht2 hs2
  go_wp2_with fail
  refine HI.out.mono ?_
  rintro e w3 ⟨rfl, ho3, ht3, hs3⟩
  have hb3 : Blk w3 qb 54 #[.int .i64 room, .slice (some ⟨g, 0, none⟩) n c, .int .i64 lost] := ht3.blk (HB2.out.alloc _) HQG.out
  have hf3 := hb3.frozen 1
  have hd3 := hb3.cell 1
  simp only [List.getElem?_toArray, List.getElem?_cons_zero, List.getElem?_cons_succ] at hd3
  rw [HN1.out] at ho3
  have ho4 : (w3.setCell ⟨qb, 1, none⟩ (.slice (some ⟨g, 0, none⟩) n c)).ownsRow 0 9 1 (.slice (some ⟨g, 0, none⟩) n c) n (L'.map strV) := by
    rw [HMP.out]
    exact own_far ho3 (fun e => HQG.out (Option.some.inj e).symm) _
  have HFin := Lib.hid (show Qu R (w3.setCell ⟨qb, 1, none⟩ (.slice (some ⟨g, 0, none⟩) n c)) qb room lost L' from
    ⟨HQ.out.zone, HQ.out.r1, HQ.out.r2, by rw [HLL.out]; have := HQ.out.len; have := HLN.out; omega, HGG.out, _, hb3.set_ 1 _, by rw [HLL.out]; exact ho4, fun g' hg => HZ.out g' hg⟩)
  have htq : Turn (fun k => k = g ∨ k = qb) w (w3.setCell ⟨qb, 1, none⟩ (.slice (some ⟨g, 0, none⟩) n c)) :=
    ((((HT2.out.mono (fun k _ h => Or.inl h)).alloc _).trans (ht3.mono (fun k _ h => Or.inl h))).set_ _ _ (Or.inr rfl))
  have HTF := Lib.hid (show Turn (QZ R w) w (w3.setCell ⟨qb, 1, none⟩ (.slice (some ⟨g, 0, none⟩) n c)) from
    htq.mono (fun k _ h => h.elim (fun e => HQZ.out k (Or.inr (by rw [e]; rfl))) (fun e => HQZ.out k (Or.inl e))))
  have HN2 := HN1.out
  clear hb3 ho3 ho4 ht3 htq hs3
  go_wp2_with fail
  go_ret
  exact ⟨rfl, HFin.out, HTF.out⟩
set_option maxHeartbeats 400000 in
theorem qmove_out {R : Nat → Prop} {w : World} {qb : Nat} {room lost : Int} {L : List (List Int)} (h : Qu R w qb room lost L) {k dt : Int} (hk : hasB L k = false ∨ hasB L dt = false) :
    Calls Try.prog 10 #[.pointer (some ⟨qb, 0, none⟩), .int .i64 k, .int .i64 dt] w fun e w' => e = .returned (.bool false) ∧ w = w' := by
  have HK := Lib.hid (qhas_any h k)
  have HC := Lib.hid (qhas_any h dt)
  by_cases hd : hasB L k = true
  · rw [hd] at HK
    rw [hk.resolve_left (by rw [hd]; simp)] at HC
    clear h hk hd
    go_enter Try.func10, Try.ntmps10
    go_wp2_with fail
    refine HK.out.mono ?_
    rintro e w' ⟨rfl, rfl⟩
    go_wp2_with fail
    refine HC.out.mono ?_
    rintro e w' ⟨rfl, rfl⟩
    go_wp2_with fail
    go_ret
    exact ⟨rfl, rfl⟩
  · rw [Bool.not_eq_true] at hd
    rw [hd] at HK
    clear h hk hd HC
    go_enter Try.func10, Try.ntmps10
    go_wp2_with fail
    refine HK.out.mono ?_
    rintro e w' ⟨rfl, rfl⟩
    go_wp2_with fail
    go_ret
    exact ⟨rfl, rfl⟩

/-! ### Clone -/
theorem qrows_any {w : World} {v : Value} {L : List (List Int)} (ho : w.ownsRow 0 9 1 v L.length (L.map strV)) (hl : L.length ≤ 1000000) :
    Calls Try.prog 29 #[v] w fun e w' => ∃ v', e = .returned v' ∧ w'.ownsRow w.heap.size 9 1 v' L.length (L.map strV) ∧ Below w.heap.size w w' := by
  rcases ho.2 with ⟨rfl, h0⟩ | ⟨g, cap, cur, rfl, _, hb, hc, hmx, hz, ht⟩
  · have hL : L = [] := List.eq_nil_of_length_eq_zero h0
    subst hL
    refine Calls.mono (Any.slices_Clone_string_nil cloneStr 0 0 w : Calls Try.prog 29 #[.slice none 0 0] w _) ?_
    rintro e w' ⟨rfl, rfl⟩
    exact ⟨_, rfl, World.ownsRow_nil _ _ _ _, Below.refl _ _⟩
  · have HC := Any.slices_Clone_string cloneStr g 0 L.length cap (L.map strOfNums) w (by simp) (by omega) (fun j hj => by
      have hj' : j < L.length := by simpa using hj
      obtain ⟨g', c', hv, _, _, _, hcell⟩ := own_str ho hj'
      injection hv with a1 _ _
      injection a1 with a1
      injection a1 with a1
      subst a1
      rw [Nat.zero_add, hcell]
      simp [List.getD, hj'])
    refine Calls.mono (HC : Calls Try.prog 29 #[.slice (some ⟨g, 0, none⟩) L.length cap] w _) ?_
    rintro e w' ⟨v', rfl, ho', _, hb'⟩
    have hx : (List.take L.length (L.map strOfNums)).map Value.string = L.map strV := by
      rw [List.take_of_length_le (by simp), List.map_map]
      rfl
    rw [hx] at ho'
    exact ⟨v', rfl, ho', hb'⟩
set_option maxHeartbeats 1000000 in
set_option maxRecDepth 100000 in
theorem qclone_any {R : Nat → Prop} {w : World} {qb : Nat} {room lost : Int} {L : List (List Int)} (h : Qu R w qb room lost L) :
    Calls Try.prog 21 #[.pointer (some ⟨qb, 0, none⟩)] w fun e w' => ∃ rb, e = .returned (.pointer (some ⟨rb, 0, none⟩)) ∧ Qu (fun k => w.heap.size ≤ k) w' rb room lost L ∧ Below w.heap.size w w' := by
  have HQ := Lib.hid h
  obtain ⟨v, hb, ho, hzn⟩ := h.ex
  have hlen : L.length ≤ 1000000 := by have := h.len; have := h.r2; omega
  have HC := Lib.hid (fun m => qrows_any (w := w.drewN m) (Turn.own ((Turn.refl (fun _ => False) w).drewN m) ho (fun _ _ => id)) hlen)
  have HC1 := Lib.hid (qrows_any (w := w.drew) ho.drew hlen)
  have HC0 := Lib.hid (qrows_any ho hlen)
  have HLT := Lib.hid h.lt
  obtain ⟨A, c, rfl, _, _⟩ := own_slice ho
  have hc0 := hb.cell 0
  have hc1 := hb.cell 1
  have hc2 := hb.cell 2
  simp only [List.getElem?_toArray, List.getElem?_cons_zero, List.getElem?_cons_succ] at hc0 hc1 hc2
  have HB := Lib.hid hb
  clear h hb ho hzn hlen
  go_enter Try.func21, Try.ntmps21
  go_wp2_with fail
  obtain ⟨n, hn⟩ : ∃ n, L.length = n := ⟨_, rfl⟩
  rw [hn] at HC1 HB hc1
  have HLN := Lib.hid hn
  clear hn
  go_region_held3 (fun w' => w'.cell? ⟨qb, 0, none⟩ = some (.int .i64 room) ∧ w'.cell? ⟨qb, 1, none⟩ = some (.slice A n c) ∧ w'.cell? ⟨qb, 2, none⟩ = some (.int .i64 lost)) (first | exact ⟨hc0, hc1, hc2⟩ | exact ⟨hr0, hr1, hr2⟩ | go_keep)
    ((go_at_call 29; refine HC1.out.mono ?_; rintro e w2 ⟨v', rfl, ho2, hb1⟩; have hb2 : Below w.heap.size w w2 := (Below.refl _ w).drew.trans hb1; have hB2 := HB.out.below hb2 HLT.out; have hr0 := hB2.cell 0; have hr1 := hB2.cell 1; have hr2 := hB2.cell 2; simp only [List.getElem?_toArray, List.getElem?_cons_zero, List.getElem?_cons_succ] at hr0 hr1 hr2; obtain ⟨A2, c2, rfl, -, -⟩ := own_slice ho2))
  have HO2 := Lib.hid ho2
  have HB2 := Lib.hid hb2
  clear ho2 hb1 hb2 hB2
  go_wp2_with fail
  go_ret
  have hs := HB2.out.size
  have hs' : w.drew.heap.size = w.heap.size := rfl
  refine ⟨_, rfl, ⟨by show w.heap.size ≤ w2.heap.size; omega, HQ.out.r1, HQ.out.r2, HQ.out.len, HQ.out.good, _, Blk.new _ _ _, by rw [HLN.out]; exact own_low (HO2.out.alloc _) (Nat.zero_le _), fun g hg => (HO2.out.lt g hg).1⟩, HB2.out.alloc (by omega) _⟩
end Go.Proofs.Ytpopchigboacaaa
