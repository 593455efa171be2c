/- Package prop: Clone; the example of the document; a table that was made since a world. -/
import Derived.Test.YtbpefdnlldpjiaaPropDrop
import Derived.Test.YtbpefdnlldpjiaaPropAll
import Derived.Laws.MakeOwn
import Derived.Lib.SliceRun
namespace Go.Proofs.Ytbpefdnlldpjiaa
open Go.RowKit Go.Sort
set_option linter.unusedSimpArgs false

set_option maxHeartbeats 400000 in
theorem rows_clone {w : World} {v : Value} {n : Nat} {L : List Tr} (h : w.ownsRow 0 70 8 v n (trCells L)) (hm : n ≤ 16) :
    Calls Try.prog 37 #[v] w fun e w' => ∃ v', e = .returned v' ∧ w'.ownsRow w.heap.size 70 8 v' n (trCells L) ∧ Below w.heap.size w w' := by
  obtain ⟨A, c, rfl, -, -⟩ := own_slice h
  have h1 := has_rows h
  have hl : (trCells L).length = n * 8 := h.1
  cases A with
  | none =>
    have h0 : n = 0 ∧ c = 0 := by
      rcases h.2 with ⟨h2, h3⟩ | ⟨g, cap, cur, hv, _⟩
      · injection h2 with _ _ a
        exact ⟨h3, a⟩
      · injection hv with a
        cases a
    obtain ⟨rfl, rfl⟩ := h0
    have hL : trCells L = [] := List.eq_nil_of_length_eq_zero (by omega)
    rw [hL]
    have hq := fun (w : World) => Lib.run_eql_slice_nil w 62 70 none 0 0 0 0 Try.underlying62
    clear h h1 hl
    go_enter Try.func37, Try.ntmps37
    go_wp2
    go_ret
    exact ⟨_, rfl, World.ownsRow_nil _ _ _ _, Below.refl _ _⟩
  | some ad =>
    have hq := fun (w : World) => Lib.run_eql_slice_nil w 62 70 (some ad) n c 0 0 Try.underlying62
    obtain ⟨i0, hi0, hx0, hx1, hx2⟩ := info_parts info_row
    have HO := Lib.hid (World.ownsRow_made (e := 70) (size := 8) w #[] 0 (Nat.le_refl _) (by unfold maxLen; omega) (by simp))
    have HB := Lib.hid (show Below w.heap.size w (w.alloc (.cells #[] 70)) from (Below.refl _ _).alloc (Nat.le_refl _) _)
    have HH := Lib.hid (h1.below HB.out (Nat.le_refl _))
    have H8 := Lib.hid (trCells_one L)
    have HLn := Lib.hid hl
    have hm1 := Lib.hid (show 0 + n ≤ maxLen by unfold maxLen; omega)
    have hm2 := Lib.hid (show (0 + n) * 64 ≤ 140737488355328 by omega)
    clear h h1 hl hm
    go_enter Try.func37, Try.ntmps37
    go_wp2_with (at_builtin; refine wpList_apps rfl _ _ 62 rfl w.heap.size 70 i0 _ 8 64 Try.underlying62 hi0 hx0 hx1 hx2 rfl (by decide) _ 0 [] rfl HO.out _ (some ad) n c (trCells L) rfl HLn.out HH.out (fun e => by cases e) H8.out hm1.out hm2.out HB.out.size ?_)
    intro v w1 ho hg _
    have HR := Lib.hid ho
    have HG := Lib.hid (HB.out.grown hg HB.out.size (fun k hk => by cases hk; exact Nat.le_refl _))
    clear ho hg
    go_wp2
    go_ret
    exact ⟨v, rfl, by simpa using HR.out, HG.out⟩
theorem own_to_zero {w : World} {b n s : Nat} {e : TypeId} {v : Value} {xs : List Value} (h : w.ownsRow b e s v n xs) : w.ownsRow 0 e s v n xs := by
  refine ⟨h.1, ?_⟩
  rcases h.2 with h2 | ⟨a, b, d, e1, e2, e3⟩
  · exact Or.inl h2
  · exact Or.inr ⟨a, b, d, e1, Nat.zero_le _, e3⟩
set_option maxHeartbeats 400000 in
theorem pclone_any {w : World} {tb : Nat} {v : Value} {f n : Int} {L : List Tr} (h : Tb w tb v f n L) : Calls Try.prog 19 #[.pointer (some ⟨tb, 0, none⟩)] w fun e w' => ∃ db v', e = .returned (.pointer (some ⟨db, 0, none⟩)) ∧ Tb w' db v' f n L ∧ w.heap.size ≤ db ∧ (∀ g, v'.ownBlock = some g → w.heap.size ≤ g) ∧ Below w.heap.size w w' := by
  have HT := Lib.hid h
  have HM := Lib.hid h.ok
  obtain ⟨A, c, rfl, -, -⟩ := own_slice h.row
  have hm := h.ok.most
  obtain ⟨n0, hn0⟩ : ∃ n0, L.length = n0 := ⟨_, rfl⟩
  have hrow := h.row
  rw [hn0] at hrow hm HT
  have HN0 := Lib.hid hn0
  have HC := Lib.hid (rows_clone (w := w.drew) hrow.drew hm)
  have c0 : w.drew.cell? ⟨tb, 0, none⟩ = some (.int .i64 f) := HT.out.blk.cell 0
  have c1 : w.drew.cell? ⟨tb, 1, none⟩ = some (.int .i64 n) := HT.out.blk.cell 1
  have c2 : w.drew.cell? ⟨tb, 2, none⟩ = some (.slice A n0 c) := HT.out.blk.cell 2
  clear h hn0 hrow hm
  go_enter Try.func19, Try.ntmps19
  go_wp2_with fail
  go_region_held3 (fun w' => w'.cell? ⟨tb, 0, none⟩ = some (.int .i64 f) ∧ w'.cell? ⟨tb, 1, none⟩ = some (.int .i64 n) ∧ w'.cell? ⟨tb, 2, none⟩ = some (.slice A n0 c)) (first | exact ⟨c0, c1, c2⟩ | exact hq2 | go_keep)
    ((go_at_call 37; refine HC.out.mono ?_; rintro e w2 ⟨v', rfl, ho, hb⟩; have hbk := HT.out.blk.drew.below hb HT.out.blk.lt; have hq2 : w2.cell? ⟨tb, 0, none⟩ = some (.int .i64 f) ∧ w2.cell? ⟨tb, 1, none⟩ = some (.int .i64 n) ∧ w2.cell? ⟨tb, 2, none⟩ = some (.slice A n0 c) := ⟨hbk.cell 0, hbk.cell 1, hbk.cell 2⟩; obtain ⟨A2, d2, rfl, -, -⟩ := own_slice ho))
  have HO := Lib.hid ho
  have HB := Lib.hid (show Below w.heap.size w w2 from Below.trans (⟨rfl, rfl, rfl, Nat.le_refl _, fun _ _ => rfl⟩ : Below w.heap.size w w.drew) hb)
  clear ho hb hbk hq2 c0 c1 c2
  go_wp2_with fail
  go_ret
  refine ⟨_, _, rfl, ⟨Blk.new w2 _ _, ?_, HM.out⟩, HB.out.size, fun g hg => (HO.out.lt g hg).1, HB.out.alloc HB.out.size _⟩
  rw [HN0.out]
  exact own_to_zero (HO.out.alloc _)
/-- A table that was made since w. -/
structure Rt (w : World) (tb : Nat) (v : Value) (f n : Int) (L : List Tr) (wr : World) : Prop where
  tab : Tb wr tb v f n L
  lt : w.heap.size ≤ tb
  lg : ∀ g, v.ownBlock = some g → w.heap.size ≤ g
  low : Below w.heap.size w wr
section
variable {w wr wz : World} {tb : Nat} {v : Value} {f n : Int} {L L' : List Tr}
theorem Rt.below (h : Rt w tb v f n L wr) (hb : Below wr.heap.size wr wz) : Rt w tb v f n L wz := ⟨h.tab.below hb, h.lt, h.lg, h.low.trans (hb.mono h.low.size)⟩
theorem Rt.drewN (h : Rt w tb v f n L wr) (m : Nat) : Rt w tb v f n L (wr.drewN m) := h.below ⟨rfl, rfl, rfl, Nat.le_refl _, fun _ _ => rfl⟩
theorem Rt.has (h : Rt w tb v f n L wr) {A : Option Addr} {xs : List Value} (hh : Has w w.heap.size A xs) : Has wr w.heap.size A xs := hh.below h.low (Nat.le_refl _)
theorem Rt.post (h : Rt w tb v f n L wr) (hp : TbPost wr tb v f n L' wz) : ∃ v', Rt w tb v' f n L' wz := by
  obtain ⟨v', h1, h2, h3⟩ := hp
  refine ⟨v', h1, h.lt, fun g hg => ?_, h.low.trans (h3.below h.low.size (fun k hk hz => ?_))⟩
  · rcases h2 g hg with h2 | h2
    · exact h.lg g h2
    · exact Nat.le_trans h.low.size h2
  · rcases hz with rfl | hz
    · have := h.lt; omega
    · have := h.lg k hz; omega
end
theorem Tb.off {w : World} {tb k : Nat} {v : Value} {f n : Int} {L : List Tr} {t : TypeId} {cs : Array Value} (h : Tb w tb v f n L) (hb : Blk w k t cs) (h1 : t ≠ 64) (h2 : t ≠ 70) : ¬ TZ tb v k := by
  rintro (e | e)
  · subst e
    exact hb.ne_ h.blk h1 rfl
  · exact own_blk_ne h.row hb (Ne.symm h2) e
/-- A block of another type is as it was. -/
theorem TbPost.far {w w' : World} {tb k : Nat} {v : Value} {f n : Int} {L L' : List Tr} {t : TypeId} {cs : Array Value} (hp : TbPost w tb v f n L' w') (h : Tb w tb v f n L) (hb : Blk w k t cs) (h1 : t ≠ 64) (h2 : t ≠ 70) : Blk w' k t cs := by
  obtain ⟨v', _, _, ht⟩ := hp
  exact ht.blk hb (h.off hb h1 h2)
theorem rt_new {f n : Int} (h1 : 1 ≤ f) (h4 : f ≤ 4) (g1 : 1 ≤ n) (g4 : n ≤ 4) (w u : World) (hu : Below w.heap.size w u) : Calls Try.prog 10 #[.int .i64 f, .int .i64 n] u fun e w' => ∃ tb, e = .returned (.tuple #[.pointer (some ⟨tb, 0, none⟩), .int .i64 0]) ∧ Rt w tb (.slice none 0 0) f n [] w' ∧ Below u.heap.size u w' ∧ u.heap.size ≤ tb :=
  (pnew_any h1 h4 g1 g4 u).mono fun _ _ ⟨he, ht, hb⟩ => ⟨_, he, ⟨ht, hu.size, (fun _ hg => by cases hg), hu.trans (hb.mono hu.size)⟩, hb, Nat.le_refl _⟩
/-- The document's example: put answers. -/
def wk : Rq := ⟨0, 1, 0, 0, 0, 0⟩
set_option maxHeartbeats 1000000 in
theorem wakes13_any (w : World) : Calls Try.prog 16 #[] w fun e w' => e = .returned (.bool true) ∧ Below w.heap.size w w' := by
  obtain ⟨L1, hL1⟩ : ∃ L1, (putT 1 1 [] wk 0 5).2 = L1 := ⟨_, rfl⟩
  have W1 := Lib.hid (show (putT 1 1 [] wk 0 5).1 = (true, false, 0) by decide +kernel)
  obtain ⟨L2, hL2⟩ : ∃ L2, (putT 1 1 L1 wk 0 6).2 = L2 := ⟨_, rfl⟩
  have W2 := Lib.hid (show (putT 1 1 L1 wk 0 6).1 = (false, false, 0) by rw [← hL1]; decide +kernel)
  have W3 := Lib.hid (show (putT 1 1 L2 wk 2 7).1 = (false, true, 0) by rw [← hL2, ← hL1]; decide +kernel)
  have HL1 := Lib.hid hL1
  have HL2 := Lib.hid hL2
  clear hL1 hL2
  go_enter Try.func16, Try.ntmps16
  go_wp2_with fail
  refine (rt_new (f := 1) (n := 1) (by omega) (by omega) (by omega) (by omega) w w (Below.refl _ _)).mono ?_
  rintro e w1 ⟨tb, rfl, hR, -, -⟩
  have HR := Lib.hid hR
  clear hR
  go_wp2_with fail
  have HRa := Lib.hid (HR.out.below (wz := w1.alloc (.cells #[.int .i64 0, .int .i64 1, .int .i64 0, .int .i64 0, .int .i64 0, .int .i64 0] 25)) ((Below.refl _ _).alloc (Nat.le_refl _) _))
  have HBx := Lib.hid (Blk.new w1 25 #[.int .i64 0, .int .i64 1, .int .i64 0, .int .i64 0, .int .i64 0, .int .i64 0])
  refine (pput_any HRa.out.tab wk 0 5).mono ?_
  rintro e w2 ⟨rfl, hp⟩
  rw [HL1.out] at hp
  have HBx2 := Lib.hid (hp.far HRa.out.tab HBx.out (by decide) (by decide))
  obtain ⟨v2, hR2⟩ := HRa.out.post hp
  have HR2 := Lib.hid hR2
  clear hp hR2
  rw [W1.out]
  obtain ⟨gb, hgb⟩ : ∃ g, w1.heap.size = g := ⟨_, rfl⟩
  rw [hgb] at HBx2
  have d0 := HBx2.out.cell 0
  have d1 := HBx2.out.cell 1
  have d2 := HBx2.out.cell 2
  have d3 := HBx2.out.cell 3
  have d4 := HBx2.out.cell 4
  have d5 := HBx2.out.cell 5
  simp only [List.getElem?_toArray, List.getElem?_cons_zero, List.getElem?_cons_succ] at d0 d1 d2 d3 d4 d5
  go_wp2_with fail
  refine (pput_any HR2.out.tab wk 0 6).mono ?_
  rintro e w3 ⟨rfl, hp⟩
  rw [HL2.out] at hp
  have hbx3 := hp.far HR2.out.tab HBx2.out (by decide) (by decide)
  obtain ⟨v3, hR3⟩ := HR2.out.post hp
  have HR3 := Lib.hid hR3
  rw [W2.out]
  clear hp hR3 d0 d1 d2 d3 d4 d5
  have d0 := hbx3.cell 0
  have d1 := hbx3.cell 1
  have d2 := hbx3.cell 2
  have d3 := hbx3.cell 3
  have d4 := hbx3.cell 4
  have d5 := hbx3.cell 5
  simp only [List.getElem?_toArray, List.getElem?_cons_zero, List.getElem?_cons_succ] at d0 d1 d2 d3 d4 d5
  clear hbx3
  go_wp2_with fail
  refine (pput_any HR3.out.tab wk 2 7).mono ?_
  rintro e w4 ⟨rfl, hp⟩
  obtain ⟨v4, hR4⟩ := HR3.out.post hp
  have HR4 := Lib.hid hR4.low
  clear hp hR4
  rw [W3.out]
  go_wp2_with fail
  go_ret
  exact ⟨rfl, HR4.out⟩
end Go.Proofs.Ytbpefdnlldpjiaa
