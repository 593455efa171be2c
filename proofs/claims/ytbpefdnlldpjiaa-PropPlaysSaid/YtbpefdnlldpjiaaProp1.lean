/- Package prop: sets of nodes at any place in memory, a table's rows; New, Len, find. -/
import Derived.Test.YtbpefdnlldpjiaaPropMath
import Derived.Test.YtbpefdnlldpjiaaReqCmp
import Derived.Test.YtbpefdnlldpjiaaNotary
import Derived.Test.YtbpefdnlldpjiaaRowCells
import Derived.Test.YtbpefdnlldpjiaaThings
import Derived.Lib.QuietBelow
import Derived.Deep.DeepCutAuto
namespace Go.Proofs.Ytbpefdnlldpjiaa
open Go.RowKit Go.Sort
set_option linter.unusedSimpArgs false

/-! ### Sets at any place -/
section
variable {w : World} {g o : Nat} {bs : List Bool}
set_option maxHeartbeats 1000000 in
theorem has_at (hl : bs.length = 13) (hc : w.cell? ⟨g, o, none⟩ = some (.int .u16 (maskS bs : Nat))) (k : Int) :
    Calls Try.prog 32 #[.pointer (some ⟨g, o, none⟩), .int .i64 k] w fun e w' => e = .returned (.bool (marked bs k)) ∧ ∃ m, w' = w.drewN m := by
  by_cases hk : 0 ≤ k ∧ k < 13
  · obtain ⟨n, rfl⟩ := Int.eq_ofNat_of_zero_le hk.1
    have hn : n < 13 := by omega
    obtain ⟨b, hb⟩ := got (l := bs) (k := n) (by rw [hl]; exact hn)
    rw [show marked bs (n : Int) = b by unfold marked; rw [decide_eq_true hk]; show (true && (bs[n]? == some true)) = b; rw [hb]; cases b <;> rfl]
    have HM := Lib.hid (mask_and hb)
    have HL := Lib.hid (mask_13 hl)
    have t1 : decide ((n : Int) ≤ 12) = true := decide_eq_true (by omega)
    clear hk hb hl
    go_enter Try.func32, Try.ntmps32
    go_wp2
    go_quiet (fail)
    go_wp2
    go_ret
    exact ⟨congrArg (fun x => Ending.returned (.bool x)) (and_mask HL.out hn HM.out), nq, rfl⟩
  · rw [show marked bs k = false by unfold marked; rw [decide_eq_false hk]; rfl]
    rcases (show k < 0 ∨ (0 ≤ k ∧ 13 ≤ k) by omega) with h1 | ⟨h1, h2⟩
    · have t0 : decide (0 ≤ k) = false := decide_eq_false (by omega)
      clear hk
      go_enter Try.func32, Try.ntmps32
      go_wp2
      go_quiet (fail)
      go_wp2
      go_ret
      exact ⟨rfl, nq, rfl⟩
    · have t0 : decide (0 ≤ k) = true := decide_eq_true h1
      have t1 : decide (k ≤ 12) = false := decide_eq_false (by omega)
      clear hk
      go_enter Try.func32, Try.ntmps32
      go_wp2
      go_quiet (fail)
      go_wp2
      go_ret
      exact ⟨rfl, nq, rfl⟩
theorem marked_b {n : Nat} {b : Bool} (hn : n < 13) (hb : bs[n]? = some b) : marked bs (n : Int) = b := by
  unfold marked
  rw [decide_eq_true (by omega)]
  show (true && (bs[n]? == some true)) = b
  rw [hb]
  cases b <;> rfl
set_option maxHeartbeats 1000000 in
theorem put_new (hl : bs.length = 13) (hc : w.cell? ⟨g, o, none⟩ = some (.int .u16 (maskS bs : Nat))) (hf : w.frozen? ⟨g, o, none⟩ = false) {k : Int} (hk : 0 ≤ k ∧ k < 13) (hm : marked bs k = false) :
    Calls Try.prog 46 #[.pointer (some ⟨g, o, none⟩), .int .i64 k] w fun e w' => e = .returned (.bool true) ∧ ∃ m, w' = (w.drewN m).setCell ⟨g, o, none⟩ (.int .u16 (maskS (bitS bs k) : Nat)) := by
  have HH := Lib.hid (has_at hl hc k)
  rw [hm] at HH
  obtain ⟨n, rfl⟩ := Int.eq_ofNat_of_zero_le hk.1
  have hn : n < 13 := by omega
  obtain ⟨b, hb⟩ := got (l := bs) (k := n) (by rw [hl]; exact hn)
  have HP := Lib.hid (show bitS bs (n : Int) = bs.set n true by unfold bitS; rw [if_pos hk]; rfl)
  have HO := Lib.hid (or_mask (mask_13 hl) hn (mask_or (by rw [hl]; exact hn)))
  clear hk hb hl hm
  go_enter Try.func46, Try.ntmps46
  go_wp2_with fail
  refine HH.out.mono ?_
  rintro e w' ⟨rfl, m, rfl⟩
  go_wp2_with fail
  go_region_law (fail)
  go_wp2
  go_ret
  refine ⟨rfl, m + 1, ?_⟩
  rw [HP.out, ← HO.out]
set_option maxHeartbeats 1000000 in
theorem put_old (hl : bs.length = 13) (hc : w.cell? ⟨g, o, none⟩ = some (.int .u16 (maskS bs : Nat))) {k : Int} (hk : 0 ≤ k ∧ k < 13) (hm : marked bs k = true) :
    Calls Try.prog 46 #[.pointer (some ⟨g, o, none⟩), .int .i64 k] w fun e w' => e = .returned (.bool false) ∧ ∃ m, w' = w.drewN m := by
  have HH := Lib.hid (has_at hl hc k)
  rw [hm] at HH
  obtain ⟨n, rfl⟩ := Int.eq_ofNat_of_zero_le hk.1
  have hn : n < 13 := by omega
  clear hk hl hm hc
  go_enter Try.func46, Try.ntmps46
  go_wp2_with fail
  refine HH.out.mono ?_
  rintro e w' ⟨rfl, m, rfl⟩
  go_wp2_with fail
  go_ret
  exact ⟨rfl, _, rfl⟩
theorem len_at (hl : bs.length = 13) (hc : w.cell? ⟨g, o, none⟩ = some (.int .u16 (maskS bs : Nat))) : Calls Try.prog 47 #[.pointer (some ⟨g, o, none⟩)] w fun e w' => e = .returned (.int .i64 (cnt bs)) ∧ ∃ m, w' = w.drewN m := by
  have HO := Lib.hid (ones_any (mask_13 hl))
  rw [mask_ones hl] at HO
  clear hl
  go_enter Try.func47, Try.ntmps47
  go_wp2_with fail
  refine (HO.out _).mono ?_
  rintro e w' ⟨rfl, n, rfl⟩
  go_wp2_with fail
  go_ret
  exact ⟨rfl, n, rfl⟩
end
/-! ### A table's rows -/
def trCells (L : List Tr) : List Value := L.flatMap Tr.cells
theorem tr_len (x : Tr) : x.cells.length = 8 := rfl
theorem trCells_len (L : List Tr) : (trCells L).length = L.length * 8 := flatMap_len tr_len L
theorem trCells_app (L M : List Tr) : trCells (L ++ M) = trCells L ++ trCells M := by simp [trCells]
theorem trCells_one (L : List Tr) : ∀ u ∈ trCells L, u.oneCell' = true := by
  intro u hu
  obtain ⟨v, _, hv⟩ := List.mem_flatMap.1 hu
  simp [Tr.cells] at hv
  rcases hv with rfl | rfl | rfl | rfl | rfl | rfl | rfl | rfl <;> rfl
theorem trCells_drop (l : List Tr) (k : Nat) : trCells (l.drop k) = (trCells l).drop (k * 8) := by
  induction k generalizing l with
  | zero => simp
  | succ k ih =>
    cases l with
    | nil => simp [trCells]
    | cons x l =>
      rw [List.drop_succ_cons, ih]
      show (trCells l).drop (k * 8) = (Tr.cells x ++ trCells l).drop ((k + 1) * 8)
      rw [show (k + 1) * 8 = (Tr.cells x).length + k * 8 by rw [tr_len]; omega, ← List.drop_drop, List.drop_left]
theorem trCells_take (l : List Tr) (k : Nat) : trCells (l.take k) = (trCells l).take (k * 8) := by
  have h : trCells (l.take k) ++ trCells (l.drop k) = (trCells l).take (k * 8) ++ (trCells l).drop (k * 8) := by
    rw [← trCells_app, List.take_append_drop, List.take_append_drop]
  rw [trCells_drop] at h
  exact List.append_cancel_right h
theorem info_row : (Try.prog.info? 70).map (fun i => (i.zero, i.size, i.bytes)) = some (some (.agg #[.int .i64 0, .int .i64 0, .int .i64 0, .int .i64 0, .int .i64 0, .int .i64 0, .int .u16 0, .int .i64 0]), 8, 64) := by kernel_rfl
/-- A row's cells, at place k of a row of rows. -/
structure RowAt (w : World) (ad : Addr) (k : Nat) (x : Tr) : Prop where
  c0 : w.cell? (ad.add (k * 8)) = some (.int .i64 x.rq.cl)
  c1 : w.cell? ⟨(ad.add (k * 8)).block, (ad.add (k * 8)).off + 1, none⟩ = some (.int .i64 x.rq.tm)
  c2 : w.cell? ⟨(ad.add (k * 8)).block, (ad.add (k * 8)).off + 2, none⟩ = some (.int .i64 x.rq.kd)
  c3 : w.cell? ⟨(ad.add (k * 8)).block, (ad.add (k * 8)).off + 3, none⟩ = some (.int .i64 x.rq.ky)
  c4 : w.cell? ⟨(ad.add (k * 8)).block, (ad.add (k * 8)).off + 4, none⟩ = some (.int .i64 x.rq.vl)
  c5 : w.cell? ⟨(ad.add (k * 8)).block, (ad.add (k * 8)).off + 5, none⟩ = some (.int .i64 x.rq.sg)
  c6 : w.cell? ⟨(ad.add (k * 8)).block, (ad.add (k * 8)).off + 6, none⟩ = some (.int .u16 (maskS x.bs : Nat))
  c7 : w.cell? ⟨(ad.add (k * 8)).block, (ad.add (k * 8)).off + 7, none⟩ = some (.int .i64 x.sc)
theorem tr_at {w : World} {B : Nat} {A : Option Addr} {L : List Tr} (h : Has w B A (trCells L)) {k : Nat} (hk : k < L.length) : ∃ ad, A = some ad ∧ ad.block < B ∧ RowAt w ad k L[k] := by
  obtain ⟨ad, e, hb, hc⟩ := h.thing (f := Tr.cells) (s := 8) tr_len (by omega) hk
  refine ⟨ad, e, hb, ⟨hc 0 _ rfl, ?_, ?_, ?_, ?_, ?_, ?_, ?_⟩⟩
  · rw [← add_pos _ _ _ (by omega)]; exact hc 1 _ rfl
  · rw [← add_pos _ _ _ (by omega)]; exact hc 2 _ rfl
  · rw [← add_pos _ _ _ (by omega)]; exact hc 3 _ rfl
  · rw [← add_pos _ _ _ (by omega)]; exact hc 4 _ rfl
  · rw [← add_pos _ _ _ (by omega)]; exact hc 5 _ rfl
  · rw [← add_pos _ _ _ (by omega)]; exact hc 6 _ rfl
  · rw [← add_pos _ _ _ (by omega)]; exact hc 7 _ rfl
theorem RowAt.back {w w' : World} {ad : Addr} {k : Nat} {x : Tr} (h : RowAt w ad k x) (hb : w'.heap[(ad.add (k * 8)).block]? = w.heap[(ad.add (k * 8)).block]?) : RowAt w' ad k x :=
  have q : ∀ j, w'.cell? ⟨(ad.add (k * 8)).block, j, none⟩ = w.cell? ⟨(ad.add (k * 8)).block, j, none⟩ := fun j => World.cell?_of_block (a := ⟨(ad.add (k * 8)).block, j, none⟩) hb
  ⟨(World.cell?_of_block hb).trans h.c0, (q _).trans h.c1, (q _).trans h.c2, (q _).trans h.c3, (q _).trans h.c4, (q _).trans h.c5, (q _).trans h.c6, (q _).trans h.c7⟩
/-- The table in block tb, its rows where v says. -/
structure Tb (w : World) (tb : Nat) (v : Value) (f n : Int) (L : List Tr) : Prop where
  blk : Blk w tb 64 #[.int .i64 f, .int .i64 n, v]
  row : w.ownsRow 0 70 8 v L.length (trCells L)
  ok : Fine f n L
/-- The blocks of a table. -/
def TZ (tb : Nat) (v : Value) (k : Nat) : Prop := k = tb ∨ v.ownBlock = some k
section
variable {w w' : World} {tb : Nat} {v : Value} {f n : Int} {L : List Tr}
theorem Tb.kept {Z : Nat → Prop} (h : Tb w tb v f n L) (ht : Turn Z w w') (hz : ∀ k, TZ tb v k → ¬ Z k) : Tb w' tb v f n L :=
  ⟨ht.blk h.blk (hz _ (Or.inl rfl)), ht.own h.row (fun k hk => hz k (Or.inr hk)), h.ok⟩
theorem Tb.below (h : Tb w tb v f n L) (hb : Below w.heap.size w w') : Tb w' tb v f n L := h.kept (Turn.of_below (Z := fun _ => False) hb) (fun _ _ => id)
theorem Tb.drewN (h : Tb w tb v f n L) (m : Nat) : Tb (w.drewN m) tb v f n L := h.kept ((Turn.refl (fun _ => False) w).drewN m) (fun _ _ => id)
theorem Tb.ne (h : Tb w tb v f n L) : v.ownBlock ≠ some tb := own_blk_ne h.row h.blk (by decide)
theorem Tb.lt (h : Tb w tb v f n L) {k : Nat} (hk : TZ tb v k) : k < w.heap.size := by
  rcases hk with rfl | hk
  · exact h.blk.lt
  · exact (h.row.lt k hk).2
theorem Tb.has (h : Tb w tb v f n L) : ∃ A c, v = .slice A L.length c ∧ L.length ≤ c ∧ c ≤ maxLen ∧ Has w w.heap.size A (trCells L) := by
  obtain ⟨A, c, rfl, h1, h2⟩ := own_slice h.row
  exact ⟨A, c, rfl, h1, h2, has_rows h.row⟩
end
set_option maxHeartbeats 400000 in
theorem pnew_any {f n : Int} (h1 : 1 ≤ f) (h4 : f ≤ 4) (g1 : 1 ≤ n) (g4 : n ≤ 4) (w : World) : Calls Try.prog 10 #[.int .i64 f, .int .i64 n] w fun e w' => e = .returned (.tuple #[.pointer (some ⟨w.heap.size, 0, none⟩), .int .i64 0]) ∧ Tb w' w.heap.size (.slice none 0 0) f n [] ∧ Below w.heap.size w w' := by
  have HF := Lib.hid (fine_new h1 h4 g1 g4)
  have a1 : decide (f < 1) = false := decide_eq_false (by omega)
  have a2 : decide (4 < f) = false := decide_eq_false (by omega)
  have a3 : decide (n < 1) = false := decide_eq_false (by omega)
  have a4 : decide (4 < n) = false := decide_eq_false (by omega)
  clear h1 h4 g1 g4
  go_enter Try.func10, Try.ntmps10
  go_wp2
  go_ret2
  exact ⟨rfl, ⟨Blk.new _ _ _, World.ownsRow_nil _ _ _ _, HF.out⟩, (Below.refl _ _).alloc (Nat.le_refl _) _⟩
set_option maxHeartbeats 400000 in
theorem pnew_out {f n : Int} (h : ¬ (1 ≤ f ∧ f ≤ 4 ∧ 1 ≤ n ∧ n ≤ 4)) (w : World) : Calls Try.prog 10 #[.int .i64 f, .int .i64 n] w fun e w' => e = .returned (.tuple #[.pointer none, .int .i64 1]) ∧ w = w' := by
  by_cases b1 : f < 1
  · have a1 : decide (f < 1) = true := decide_eq_true b1
    clear h
    go_enter Try.func10, Try.ntmps10
    go_wp2
    go_ret2
    exact ⟨rfl, rfl⟩
  · have a1 : decide (f < 1) = false := decide_eq_false b1
    by_cases b2 : 4 < f
    · have a2 : decide (4 < f) = true := decide_eq_true b2
      clear h
      go_enter Try.func10, Try.ntmps10
      go_wp2
      go_ret2
      exact ⟨rfl, rfl⟩
    · have a2 : decide (4 < f) = false := decide_eq_false b2
      by_cases b3 : n < 1
      · have a3 : decide (n < 1) = true := decide_eq_true b3
        clear h
        go_enter Try.func10, Try.ntmps10
        go_wp2
        go_ret2
        exact ⟨rfl, rfl⟩
      · have a3 : decide (n < 1) = false := decide_eq_false b3
        have a4 : decide (4 < n) = true := decide_eq_true (by omega)
        clear h
        go_enter Try.func10, Try.ntmps10
        go_wp2
        go_ret2
        exact ⟨rfl, rfl⟩
theorem plen_any {w : World} {tb : Nat} {v : Value} {f n : Int} {L : List Tr} (h : Tb w tb v f n L) : Calls Try.prog 21 #[.pointer (some ⟨tb, 0, none⟩)] w fun e w' => e = .returned (.int .i64 (L.length : Int)) ∧ w = w' := by
  obtain ⟨A, c, rfl, _, _, _⟩ := h.has
  have hc := h.blk.cell 2
  simp only [List.getElem?_toArray, List.getElem?_cons_zero, List.getElem?_cons_succ] at hc
  clear h
  go_enter Try.func21, Try.ntmps21
  go_wp2
  go_ret
  exact ⟨rfl, rfl⟩
/-! ### find -/
theorem find_cl (x : Tr) (r : Rq) (w : World) :
    Calls Try.prog 42 #[.agg #[.int .i64 x.rq.cl, .int .i64 x.rq.tm, .int .i64 x.rq.kd, .int .i64 x.rq.ky, .int .i64 x.rq.vl, .int .i64 x.rq.sg, .int .u16 (maskS x.bs : Nat), .int .i64 x.sc], .agg #[.int .i64 r.cl, .int .i64 r.tm, .int .i64 r.kd, .int .i64 r.ky, .int .i64 r.vl, .int .i64 r.sg]] w fun e w' => e = .returned (.int .i64 (cmpR x.rq r)) ∧ Below w.heap.size w w' := by
  have HC := Lib.hid (fun w => rq_compare x.rq r w)
  obtain ⟨m, hm⟩ : ∃ m : Int, (maskS x.bs : Nat) = m := ⟨_, rfl⟩
  rw [hm]
  obtain ⟨z, hz⟩ : ∃ z, cmpR x.rq r = z := ⟨_, rfl⟩
  rw [hz] at HC ⊢
  have HB := Lib.hid (fun (cs ds : Array Value) (t u : TypeId) => show Below w.heap.size w ((w.alloc (.cells cs t)).alloc (.cells ds u)) from ((Below.refl _ _).alloc (Nat.le_refl _) _).alloc (by simp) _)
  clear hm hz
  go_enter Try.func42, Try.ntmps42
  go_wp2_with fail
  refine (HC.out _).mono ?_
  rintro e w1 ⟨rfl, hb⟩
  have HB2 := Lib.hid ((HB.out _ _ _ _).trans (hb.mono (by simp; omega)))
  clear hb
  go_wp2_with fail
  go_ret
  exact ⟨rfl, HB2.out⟩
/-- What the search knows: places below i are below, those from j on are not. -/
structure Sr (w : World) (gt : Nat) (r : Rq) (L : List Tr) (i j : Nat) (wr : World) : Prop where
  low : Below w.heap.size w wr
  box : Blk wr gt 25 #[.int .i64 r.cl, .int .i64 r.tm, .int .i64 r.kd, .int .i64 r.ky, .int .i64 r.vl, .int .i64 r.sg]
  lo : ∀ k, k < i → ∃ x, L[k]? = some x ∧ cmpR x.rq r < 0
  hi : ∀ k x, j ≤ k → L[k]? = some x → 0 ≤ cmpR x.rq r
section
variable {w wr wz : World} {gt i j : Nat} {r : Rq} {L : List Tr}
theorem Sr.below (h : Sr w gt r L i j wr) (hb : Below wr.heap.size wr wz) : Sr w gt r L i j wz := ⟨h.low.trans (hb.mono h.low.size), h.box.below hb h.box.lt, h.lo, h.hi⟩
theorem Sr.up (h : Sr w gt r L i j wr) (hs : Ris (rqs L)) {k : Nat} {x : Tr} (hx : L[k]? = some x) (hc : cmpR x.rq r < 0) : Sr w gt r L (k + 1) j wr :=
  ⟨h.low, h.box, fun q hq => by
    by_cases e : q = k
    · subst e; exact ⟨x, hx, hc⟩
    · have hl := (List.getElem?_eq_some_iff.1 hx).1
      have hq' : L[q]? = some L[q] := List.getElem?_eq_getElem (by omega)
      exact ⟨_, hq', cmpR_trans (ris_lt hs (by omega) hq' hx) hc⟩, h.hi⟩
theorem Sr.down (h : Sr w gt r L i j wr) (hs : Ris (rqs L)) {k : Nat} {x : Tr} (hx : L[k]? = some x) (hc : 0 ≤ cmpR x.rq r) : Sr w gt r L i k wr :=
  ⟨h.low, h.box, h.lo, fun q y hq hy => by
    by_cases e : q = k
    · subst e
      rw [hx] at hy
      cases hy
      exact hc
    · have := ris_lt hs (by omega) hx hy
      exact cmpR_ge (by rw [cmpR_anti]; omega) hc⟩
theorem Sr.done (h : Sr w gt r L i i wr) (hi : i ≤ L.length) : seat L r = i := seat_is hi h.lo (fun x hx => h.hi i x (Nat.le_refl _) hx)
theorem had_end (hs : Ris (rqs L)) (h : seat L r = L.length) : had L r = false := by
  rw [← Bool.not_eq_true]
  intro hh
  obtain ⟨x, h1, _, _⟩ := had_at hs hh
  have := (List.getElem?_eq_some_iff.1 h1).1
  omega
theorem had_here (hs : Ris (rqs L)) {x : Tr} (hx : L[seat L r]? = some x) : had L r = decide (cmpR x.rq r = 0) := by
  by_cases e : cmpR x.rq r = 0
  · rw [decide_eq_true e]
    exact had_iff.2 ⟨x, List.mem_of_getElem? hx, cmpR_zero e⟩
  · rw [decide_eq_false e, ← Bool.not_eq_true]
    intro hh
    obtain ⟨y, h1, h2, _⟩ := had_at hs hh
    rw [hx] at h1
    cases h1
    exact e (by rw [h2, cmpR_self])
end
end Go.Proofs.Ytbpefdnlldpjiaa
