/- Package inst: Commits, Adopt, Committed, Prepared. -/
import Derived.Test.YtpdmflhbmimhgaaInstA
namespace Go.Proofs.Ytpdmflhbmimhgaa
open Go.RowKit
set_option linter.unusedSimpArgs false

section
variable {w : World} {ib k : Nat} {x : Ix} {E : List Pe} {e : Pe}
theorem Turn.more {a b c : World} {Z Y : Nat → Prop} (h : Turn Z a b) (k : Turn Y b c) (hy : ∀ j, Y j → a.heap.size ≤ j ∨ Z j) : Turn Z a c :=
  ((h.mono (Z' := fun j => a.heap.size ≤ j ∨ Z j) (fun _ _ hj => Or.inr hj)).trans (k.mono (fun j _ hj => hy j hj))).mono (fun j hj hz => hz.resolve_left (by omega))
theorem CtIs.new {w : World} {g : Nat} {c : Ct} {A B : Option Addr} {d e : Nat} (hb : Blk w g 31 #[.int .i64 c.vw, .int .i64 c.ins, .int .i64 c.sq, .slice A c.bt.length d, .slice B c.vs.length e]) (hn : CtNew w 0 c A d B e) (l1 : c.bt.length ≤ 1000000) (l2 : c.vs.length ≤ 1000000) : CtAt w (some g) (some c) := ⟨A, d, B, e, hb, hn.bt, hn.vs, l1, l2⟩
/-- A certificate's pointer is stored into a place. -/
theorem In.store (h : In w ib x E) (hk : E[k]? = some e) {w' : World} {pa ca : Option Nat} {pr co : Option Ct} (ht : Turn (fun j => j = ib) w w') {j : Nat} (hj : j < 3) {u : Value} (hu : (Pe.cells ⟨⟨e.x.s, pr, co⟩, e.sb, e.v1, e.v2, pa, ca⟩) = e.cells.set j u)
    (hb : Blk w' ib 84 ((inCells x E).setIfInBounds (4 + k * 3 + j) u)) (hp : CtAt w' pa pr) (hc : CtAt w' ca co) : IPost w ib E (x.put k ⟨e.x.s, pr, co⟩) w' := by
  have hf : Far w (fun j => j = ib) := fun k' t cs hb h1 _ _ e => hb.ne_ h.blk h1 e
  have hi := h.all k e hk
  refine h.put hk (y := ⟨⟨e.x.s, pr, co⟩, e.sb, e.v1, e.v2, pa, ca⟩) ht hf (fun _ hj => Or.inl hj) ⟨hi.sl.kept ht (fun m hm em => h.off hk (em ▸ hm)) (fun _ _ hb => hf.own hb.own (by decide) (by decide) (by decide)), hp, hc⟩ (fun _ hj => Or.inl hj) rfl ?_
  have : inCells x (E.set k ⟨⟨e.x.s, pr, co⟩, e.sb, e.v1, e.v2, pa, ca⟩) = (inCells x E).setIfInBounds (4 + k * 3 + j) u := by
    unfold inCells
    rw [peCells_put hk hj hu]
    apply Array.ext'
    rw [Array.toList_setIfInBounds]
    show hdI x ++ _ = (hdI x ++ peCells E).set (4 + k * 3 + j) u
    rw [List.set_append_right _ _ (by show 4 ≤ _; omega), show 4 + k * 3 + j - (hdI x).length = k * 3 + j by show _ - 4 = _; omega]
  rw [this]
  exact hb
theorem In.kept_pr (h : In w ib x E) (hk : E[k]? = some e) {w' : World} (ht : Turn (fun j => j = ib) w w') : CtAt w' e.pa e.x.pr ∧ CtAt w' e.ca e.x.co := by
  have hf : Far w (fun j => j = ib) := fun k' t cs hb h1 _ _ e => hb.ne_ h.blk h1 e
  exact ⟨(h.all k e hk).pr.kept ht hf, (h.all k e hk).co.kept ht hf⟩
set_option maxRecDepth 100000 in
set_option maxHeartbeats 2000000 in
theorem icommits_in (h : In w ib x E) (hk : E[k]? = some e) (hon : x.on = true) (hc : e.x.co = none) {q : Nat} (hq : (q : Int) = 2 * x.f + 1) {b : List Rq} {v : List Vt} (hn : e.x.s.com q = some (b, v)) :
    Calls Try.prog 18 #[.pointer (some ⟨ib, 0, none⟩), .int .i64 ((k : Int) + 1)] w fun e' w' => ∃ A d B d', e' = .returned (.tuple #[.agg #[.int .i64 x.vw, .int .i64 x.num, .int .i64 ((k : Int) + 1), .slice A b.length d, .slice B v.length d'], .bool true]) ∧ CtNew w' w.heap.size ⟨x.vw, x.num, (k : Int) + 1, b, v⟩ A d B d' ∧ IPost w ib E (x.put k ⟨e.x.s, e.x.pr, some ⟨x.vw, x.num, (k : Int) + 1, b, v⟩⟩) w' := by
  have HB := Lib.hid (show Below w.heap.size w (w.alloc (.cells #[.int .i64 0, .int .i64 0, .int .i64 0, .slice none 0 0, .slice none 0 0] 31)) from (Below.refl _ _).alloc (Nat.le_refl _) _)
  have HZ := Lib.hid (Blk.new w 31 #[.int .i64 0, .int .i64 0, .int .i64 0, .slice none 0 0, .slice none 0 0])
  have H0 := Lib.hid h
  have HK0 := Lib.hid hk
  have HI := Lib.hid (h.below HB.out)
  have HO := Lib.hid (iopen_in HI.out (h.k16 hk) hon)
  have c2 := HI.out.cell2 hk
  have c0 := HI.out.cell0 hk
  have hs := ((h.all k e hk).co).isSome
  have HC := Lib.hid (scom_any (HI.out.all k e hk).sl hq)
  have HLow := Lib.hid (show b.length ≤ 1000000 ∧ v.length ≤ 1000000 from by
    have h1 := (h.all k e hk).sl.com_low q
    have h2 := (decS_is (comS_is (show comS q e.x.s.C e.x.s.C = some (b, v) from hn))).2.2
    have := h.f4
    rw [hn] at h1
    exact ⟨h1, by omega⟩)
  rw [hn] at HC
  simp only [batOf, votOf, Option.map_some, Option.getD_some, Option.isSome_some] at HC
  obtain ⟨sb, hsb⟩ : ∃ y, e.sb = y := ⟨_, rfl⟩
  rw [hsb] at HC c0
  rw [hc] at hs
  cases hca : e.ca with
  | some g => rw [hca] at hs; cases hs
  | none =>
    rw [hca] at c2
    change _ = some (Value.pointer none) at c2
    obtain ⟨n1, hn1⟩ : ∃ y, b.length = y := ⟨_, rfl⟩
    obtain ⟨n2, hn2⟩ : ∃ y, v.length = y := ⟨_, rfl⟩
    obtain ⟨vw, hvw⟩ : ∃ y, x.vw = y := ⟨_, rfl⟩
    obtain ⟨nm, hnm⟩ : ∃ y, x.num = y := ⟨_, rfl⟩
    have HN := Lib.hid (And.intro hn1 (And.intro hn2 (And.intro hvw hnm)))
    rw [hn1, hn2] at HC
    clear h hk hon hc hs hca hq hn hsb hn1 hn2 hvw hnm
    go_enter Try.func18, Try.ntmps18
    go_wp2_with fail
    refine HO.out.mono ?_
    rintro e1 w1 ⟨rfl, rfl⟩
    go_wp2_with fail
    refine HC.out.mono ?_
    rintro e2 w2 ⟨u1, u2, rfl, ho1, ho2, hb⟩
    have HO1 := Lib.hid ho1
    have HO2 := Lib.hid ho2
    obtain ⟨A1, d1, rfl, -, -⟩ := own_slice ho1
    obtain ⟨A2, d2, rfl, -, -⟩ := own_slice ho2
    have HZ2 := Lib.hid (HZ.out.below hb HZ.out.lt)
    have HB2 := Lib.hid (HB.out.trans (hb.mono HB.out.size))
    have HI2 := Lib.hid (H0.out.below HB2.out)
    have HI3 := Lib.hid (show In w2.drew ib x E from HI2.out.drewN 1)
    obtain ⟨h0, -, h2, -⟩ := HI3.out.hd
    rw [HN.out.2.2.1] at h2
    rw [HN.out.2.2.2] at h0
    have hq1 := And.intro h2 h0
    have hq2 : ∀ o : Obj, (w2.alloc o).drew.cell? ⟨ib, 2, none⟩ = some (.int .i64 vw) ∧ (w2.alloc o).drew.cell? ⟨ib, 0, none⟩ = some (.int .i64 nm) := fun o => by
      have hd := ((HI2.out.below ((Below.refl _ _).alloc (Nat.le_refl _) o)).drewN 1).hd
      rw [HN.out.2.2.1, HN.out.2.2.2] at hd
      exact ⟨hd.2.2.1, hd.1⟩
    have HI4 := Lib.hid (show In (w2.alloc (.cells #[.int .i64 vw, .int .i64 nm, .int .i64 ((k : Int) + 1), .slice A1 n1 d1, .slice A2 n2 d2] 31)).drew ib x E from (HI2.out.below ((Below.refl _ _).alloc (Nat.le_refl _) _)).drewN 1)
    have k2 := HI4.out.cell2 HK0.out
    have hf := HI4.out.blk.frozen (4 + k * 3 + 2)
    have hq3 : ∀ (o : Obj) (u : Value), ((w2.alloc o).setCell ⟨ib, 4 + k * 3 + 2, none⟩ u).drew.cell? ⟨ib, 2, none⟩ = some (.int .i64 vw) ∧ ((w2.alloc o).setCell ⟨ib, 4 + k * 3 + 2, none⟩ u).drew.cell? ⟨ib, 0, none⟩ = some (.int .i64 nm) := fun o u => by
      have b := ((HI2.out.blk.alloc o).set_ (4 + k * 3 + 2) u).drew
      refine ⟨?_, ?_⟩
      · rw [b.cell, Array.getElem?_setIfInBounds_ne (by omega), ← HI2.out.blk.drew.cell]; exact hq1.1
      · rw [b.cell, Array.getElem?_setIfInBounds_ne (by omega), ← HI2.out.blk.drew.cell]; exact hq1.2
    have x1 : 4 + k * 3 + 2 ≠ 2 := by omega
    have x2 : 4 + k * 3 + 2 ≠ 0 := by omega
    have x3 : 2 ≠ 4 + k * 3 + 2 := by omega
    have x4 : 0 ≠ 4 + k * 3 + 2 := by omega
    clear ho1 ho2 hb c0 c2 h0 h2
    go_wp2_with fail
    go_region_held3 (fun w' => w'.cell? ⟨ib, 2, none⟩ = some (.int .i64 vw) ∧ w'.cell? ⟨ib, 0, none⟩ = some (.int .i64 nm)) (first | with_reducible exact hq1 | with_reducible exact hq2 _ | with_reducible exact hq3 _ _ | go_keep) (fail)
    have g0 : w2.heap.size < (w2.alloc (.cells #[.int .i64 vw, .int .i64 nm, .int .i64 ((k : Int) + 1), .slice A1 n1 d1, .slice A2 n2 d2] 31)).heap.size := by simp
    have HT3 := Lib.hid (show Turn (fun j => j = ib) w ((w2.alloc (.cells #[.int .i64 vw, .int .i64 nm, .int .i64 ((k : Int) + 1), .slice A1 n1 d1, .slice A2 n2 d2] 31)).setCell ⟨ib, 4 + k * 3 + 2, none⟩ (.pointer (some ⟨w2.heap.size, 0, none⟩))).drew from ((((Turn.of_below (Z := fun j => j = ib) HB2.out).alloc _).set_ ⟨ib, 4 + k * 3 + 2, none⟩ _ rfl).drewN 1))
    have HK3 := Lib.hid (show Blk ((w2.alloc (.cells #[.int .i64 vw, .int .i64 nm, .int .i64 ((k : Int) + 1), .slice A1 n1 d1, .slice A2 n2 d2] 31)).setCell ⟨ib, 4 + k * 3 + 2, none⟩ (.pointer (some ⟨w2.heap.size, 0, none⟩))).drew ib _ _ from ((HI2.out.blk.alloc (.cells #[.int .i64 vw, .int .i64 nm, .int .i64 ((k : Int) + 1), .slice A1 n1 d1, .slice A2 n2 d2] 31)).set_ (4 + k * 3 + 2) _).drew)
    have HG3 := Lib.hid (show Blk ((w2.alloc (.cells #[.int .i64 vw, .int .i64 nm, .int .i64 ((k : Int) + 1), .slice A1 n1 d1, .slice A2 n2 d2] 31)).setCell ⟨ib, 4 + k * 3 + 2, none⟩ (.pointer (some ⟨w2.heap.size, 0, none⟩))).drew w2.heap.size _ _ from ((Blk.new w2 _ _).far (by have := HI2.out.blk.lt; show w2.heap.size ≠ ib; omega) _).drew)
    have HZ3 := Lib.hid (show Blk ((w2.alloc (.cells #[.int .i64 vw, .int .i64 nm, .int .i64 ((k : Int) + 1), .slice A1 n1 d1, .slice A2 n2 d2] 31)).setCell ⟨ib, 4 + k * 3 + 2, none⟩ (.pointer (some ⟨w2.heap.size, 0, none⟩))).drew w.heap.size _ _ from ((HZ2.out.alloc _).far (HZ2.out.ne_ HI2.out.blk (by decide)) _).drew)
    have HT23 := Lib.hid (show Turn (fun j => j = ib) w2 ((w2.alloc (.cells #[.int .i64 vw, .int .i64 nm, .int .i64 ((k : Int) + 1), .slice A1 n1 d1, .slice A2 n2 d2] 31)).setCell ⟨ib, 4 + k * 3 + 2, none⟩ (.pointer (some ⟨w2.heap.size, 0, none⟩))).drew from ((((Turn.refl (fun j => j = ib) w2).alloc _).set_ ⟨ib, 4 + k * 3 + 2, none⟩ _ rfl).drewN 1))
    have HP1 := Lib.hid (HT23.out.own HO1.out (fun j hj e => own_blk_ne HO1.out HI2.out.blk (by decide) (hj.trans (congrArg some e))))
    have HP2 := Lib.hid (HT23.out.own HO2.out (fun j hj e => own_blk_ne HO2.out HI2.out.blk (by decide) (hj.trans (congrArg some e))))
    have HGr := Lib.hid (show w2.heap.size ≠ w.heap.size from by have := HZ2.out.lt; omega)
    obtain ⟨w3, hw3⟩ : ∃ y, ((w2.alloc (.cells #[.int .i64 vw, .int .i64 nm, .int .i64 ((k : Int) + 1), .slice A1 n1 d1, .slice A2 n2 d2] 31)).setCell ⟨ib, 4 + k * 3 + 2, none⟩ (.pointer (some ⟨w2.heap.size, 0, none⟩))).drew = y := ⟨_, rfl⟩
    obtain ⟨g, hg⟩ : ∃ y, w2.heap.size = y := ⟨_, rfl⟩
    rw [hg] at HK3 HGr hw3 HG3 HZ3 HT3 HP1 HP2
    rw [hg, hw3]
    rw [hw3] at HK3 HG3 HZ3 HT3 HP1 HP2
    have k3 : w3.cell? ⟨ib, 4 + k * 3 + 2, none⟩ = some (.pointer (some ⟨g, 0, none⟩)) := by
      rw [HK3.out.cell, Array.getElem?_setIfInBounds_self_of_lt]
      show _ < (hdI x ++ peCells E).toArray.size
      have := H0.out.k16 HK0.out
      have := H0.out.ln
      rw [List.size_toArray, List.length_append, peCells_len]
      show _ < 4 + _
      omega
    have HCp := Lib.hid (icopied_any (c := ⟨vw, nm, (k : Int) + 1, b, v⟩) (w := w3) (g := g) (A := A1) (d := d1) (B := A2) (e := d2) (by rw [HN.out.1, HN.out.2.1]; exact HG3.out) (has_rows HP1.out) (has_rows HP2.out) (Nat.le_refl _) HLow.out.1 HLow.out.2)
    simp only [HN.out.1, HN.out.2.1] at HCp
    clear hw3 hg HT23 HO1 HO2 HI2 HI3 HI4 hq1 hq2 hq3 k2 hf x1 x2 x3 x4 g0 HZ2 HB2
    go_wp2_with fail
    refine HCp.out.mono ?_
    rintro e3 w4 ⟨A3, d3, A4, d4, rfl, hn4, hb4⟩
    have HZ4 := Lib.hid (HZ3.out.below hb4 HZ3.out.lt)
    obtain ⟨e0, e1, e2, e3, e4, f0, f1, f2, f3, f4⟩ := blk_cells5 HZ4.out
    have HN4 := Lib.hid hn4
    have HB4 := Lib.hid hb4
    clear hn4 hb4 k3
    go_wp2_with fail
    (try simp only [Exit.inBlock, Exit.then])
    refine bodyPost_ret (cert_cell2 rfl _ rfl (((((HZ4.out.set_ 0 _).set_ 1 _).set_ 2 _).set_ 3 _).set_ 4 _)) rfl ?_
    have ht : Turn (fun j => j = w.heap.size) w4 (((((w4.setCell ⟨w.heap.size, 0, none⟩ (.int .i64 vw)).setCell ⟨w.heap.size, 1, none⟩ (.int .i64 nm)).setCell ⟨w.heap.size, 2, none⟩ (.int .i64 ((k : Int) + 1))).setCell ⟨w.heap.size, 3, none⟩ (.slice A3 n1 d3)).setCell ⟨w.heap.size, 4, none⟩ (.slice A4 n2 d4)) :=
      (((((Turn.refl (fun j => j = w.heap.size) w4).set_ ⟨w.heap.size, 0, none⟩ _ rfl).set_ ⟨w.heap.size, 1, none⟩ _ rfl).set_ ⟨w.heap.size, 2, none⟩ _ rfl).set_ ⟨w.heap.size, 3, none⟩ _ rfl).set_ ⟨w.heap.size, 4, none⟩ _ rfl
    obtain ⟨w5, hw5⟩ : ∃ y, (((((w4.setCell ⟨w.heap.size, 0, none⟩ (.int .i64 vw)).setCell ⟨w.heap.size, 1, none⟩ (.int .i64 nm)).setCell ⟨w.heap.size, 2, none⟩ (.int .i64 ((k : Int) + 1))).setCell ⟨w.heap.size, 3, none⟩ (.slice A3 n1 d3)).setCell ⟨w.heap.size, 4, none⟩ (.slice A4 n2 d4)) = y := ⟨_, rfl⟩
    rw [hw5] at ht ⊢
    have hrow : ∀ {b' m n : Nat} {t : TypeId} {v : Value} {xs : List Value}, w4.ownsRow b' t m v n xs → t ≠ 31 → w5.ownsRow b' t m v n xs := fun ho hne => ht.own ho (fun j hj e => own_blk_ne ho HZ4.out hne (hj.trans (congrArg some e)))
    have hT5 : Turn (fun j => j = ib) w w5 := (HT3.out.trans (Turn.of_below HB4.out)).more ht (fun j e => Or.inl (by omega))
    refine ⟨A3, d3, A4, d4, ?_, ⟨?_, ?_⟩, ?_⟩
    · rw [HN.out.1, HN.out.2.1, HN.out.2.2.1, HN.out.2.2.2]; rfl
    · have h4 := HN4.out.bt
      simp only [HN.out.1] at h4 ⊢
      exact hrow (own_base h4 HT3.out.size) (by decide)
    · have h4 := HN4.out.vs
      simp only [HN.out.2.1] at h4 ⊢
      exact hrow (own_base h4 HT3.out.size) (by decide)
    · rw [HN.out.2.2.1, HN.out.2.2.2]
      have hp := H0.out.kept_pr HK0.out hT5
      refine H0.out.store HK0.out (pa := e.pa) (ca := some g) (pr := e.x.pr) (co := some ⟨vw, nm, (k : Int) + 1, b, v⟩) hT5 (j := 2) (by omega) (u := .pointer (some ⟨g, 0, none⟩)) rfl ?_ hp.1 ?_
      · exact ht.blk (HK3.out.below HB4.out HK3.out.lt) (HZ4.out.ne_ (HK3.out.below HB4.out HK3.out.lt) (by decide)).symm
      · have h5 := ht.blk (HG3.out.below HB4.out HG3.out.lt) HGr.out
        refine CtIs.new (A := A1) (d := d1) (B := A2) (e := d2) ?_ ⟨?_, ?_⟩ HLow.out.1 HLow.out.2
        · show Blk w5 g _ #[.int .i64 vw, .int .i64 nm, .int .i64 ((k : Int) + 1), .slice A1 b.length d1, .slice A2 v.length d2]
          rw [HN.out.1, HN.out.2.1]; exact h5
        · simp only [HN.out.1]; exact hrow (own_base (below_own HP1.out HB4.out (Nat.le_refl _)) (Nat.zero_le _)) (by decide)
        · simp only [HN.out.2.1]; exact hrow (own_base (below_own HP2.out HB4.out (Nat.le_refl _)) (Nat.zero_le _)) (by decide)
end
end Go.Proofs.Ytpdmflhbmimhgaa
namespace Go.Proofs.Ytpdmflhbmimhgaa
open Go.RowKit
set_option linter.unusedSimpArgs false

section
variable {w : World} {ib k : Nat} {x : Ix} {E : List Pe} {e : Pe}
/-- No slot, or nothing is committed there. -/
theorem icommitted_out (w : World) (ib : Nat) {sq : Int} (ho : ¬ (1 ≤ sq ∧ sq ≤ 16)) :
    Calls Try.prog 32 #[.pointer (some ⟨ib, 0, none⟩), .int .i64 sq] w fun e w' => e = .returned (.tuple #[.agg #[.int .i64 0, .int .i64 0, .int .i64 0, .slice none 0 0, .slice none 0 0], .bool false]) ∧ Below w.heap.size w w' := by
  have HB := Lib.hid (show Below w.heap.size w (w.alloc (.cells #[.int .i64 0, .int .i64 0, .int .i64 0, .slice none 0 0, .slice none 0 0] 31)) from (Below.refl _ _).alloc (Nat.le_refl _) _)
  have HO := Lib.hid (fun w => iat_out ib ho w)
  clear ho
  go_enter Try.func32, Try.ntmps32
  go_wp2_with fail
  refine (HO.out _).mono ?_
  rintro e w1 ⟨rfl, rfl⟩
  go_wp2_with fail
  (try simp only [Exit.inBlock, Exit.then])
  refine bodyPost_ret (cert_cell2 rfl _ rfl (Blk.new w 31 #[.int .i64 0, .int .i64 0, .int .i64 0, .slice none 0 0, .slice none 0 0])) rfl ?_
  exact ⟨rfl, HB.out⟩
theorem icommitted_none (h : In w ib x E) (hk : E[k]? = some e) (hc : e.x.co = none) :
    Calls Try.prog 32 #[.pointer (some ⟨ib, 0, none⟩), .int .i64 ((k : Int) + 1)] w fun e w' => e = .returned (.tuple #[.agg #[.int .i64 0, .int .i64 0, .int .i64 0, .slice none 0 0, .slice none 0 0], .bool false]) ∧ Below w.heap.size w w' := by
  have HB := Lib.hid (show Below w.heap.size w (w.alloc (.cells #[.int .i64 0, .int .i64 0, .int .i64 0, .slice none 0 0, .slice none 0 0] 31)) from (Below.refl _ _).alloc (Nat.le_refl _) _)
  have HI := Lib.hid (h.below HB.out)
  have HO := Lib.hid (fun w => iat_in ib (h.k16 hk) w)
  have c2 := HI.out.cell2 hk
  have hs := ((h.all k e hk).co).isSome
  rw [hc] at hs
  cases hca : e.ca with
  | some g => rw [hca] at hs; cases hs
  | none =>
    rw [hca] at c2
    change _ = some (Value.pointer none) at c2
    clear h hk hc hs hca HI
    go_enter Try.func32, Try.ntmps32
    go_wp2_with fail
    refine (HO.out _).mono ?_
    rintro e w1 ⟨rfl, rfl⟩
    go_wp2_with fail
    (try simp only [Exit.inBlock, Exit.then])
    refine bodyPost_ret (cert_cell2 rfl _ rfl (Blk.new w 31 #[.int .i64 0, .int .i64 0, .int .i64 0, .slice none 0 0, .slice none 0 0])) rfl ?_
    exact ⟨rfl, HB.out⟩
set_option maxHeartbeats 1000000 in
theorem icommitted_in (h : In w ib x E) (hk : E[k]? = some e) {c : Ct} (hc : e.x.co = some c) :
    Calls Try.prog 32 #[.pointer (some ⟨ib, 0, none⟩), .int .i64 ((k : Int) + 1)] w fun e w' => ∃ A d B d', e = .returned (.tuple #[.agg #[.int .i64 c.vw, .int .i64 c.ins, .int .i64 c.sq, .slice A c.bt.length d, .slice B c.vs.length d'], .bool true]) ∧ CtNew w' w.heap.size c A d B d' ∧ Below w.heap.size w w' := by
  have HB := Lib.hid (show Below w.heap.size w (w.alloc (.cells #[.int .i64 0, .int .i64 0, .int .i64 0, .slice none 0 0, .slice none 0 0] 31)) from (Below.refl _ _).alloc (Nat.le_refl _) _)
  have HZ := Lib.hid (Blk.new w 31 #[.int .i64 0, .int .i64 0, .int .i64 0, .slice none 0 0, .slice none 0 0])
  have HI := Lib.hid (h.below HB.out)
  have HO := Lib.hid (fun w => iat_in ib (h.k16 hk) w)
  have c2 := HI.out.cell2 hk
  have hct := (HI.out.all k e hk).co
  rw [hc] at hct
  obtain ⟨g, A0, d0, B0, d1, hca, hct⟩ := hct.some
  rw [hca] at c2
  change _ = some (Value.pointer (some ⟨g, 0, none⟩)) at c2
  have HC := Lib.hid (icopied_any hct.blk (has_rows hct.bt) (has_rows hct.vs) (Nat.le_refl _) hct.lb hct.lv)
  obtain ⟨n1, hn1⟩ : ∃ y, c.bt.length = y := ⟨_, rfl⟩
  obtain ⟨n2, hn2⟩ : ∃ y, c.vs.length = y := ⟨_, rfl⟩
  have HN := Lib.hid (And.intro hn1 hn2)
  rw [hn1, hn2] at HC
  obtain ⟨vw, hvw⟩ : ∃ y, c.vw = y := ⟨_, rfl⟩
  obtain ⟨ci, hci⟩ : ∃ y, c.ins = y := ⟨_, rfl⟩
  obtain ⟨cq, hcq⟩ : ∃ y, c.sq = y := ⟨_, rfl⟩
  rw [hvw, hci, hcq] at HC ⊢
  rw [hn1, hn2]
  clear h hk hc hca HI hct hn1 hn2 hvw hci hcq
  go_enter Try.func32, Try.ntmps32
  go_wp2_with fail
  refine (HO.out _).mono ?_
  rintro e w1 ⟨rfl, rfl⟩
  go_wp2_with fail
  refine HC.out.mono ?_
  rintro e3 w4 ⟨A3, d3, A4, d4, rfl, hn4, hb4⟩
  have HZ4 := Lib.hid (HZ.out.below hb4 HZ.out.lt)
  obtain ⟨e0, e1, e2, e3, e4, f0, f1, f2, f3, f4⟩ := blk_cells5 HZ4.out
  have HN4 := Lib.hid hn4
  have HB4 := Lib.hid (HB.out.trans (hb4.mono HB.out.size))
  clear hn4 hb4 c2
  go_wp2_with fail
  (try simp only [Exit.inBlock, Exit.then])
  refine bodyPost_ret (cert_cell2 rfl _ rfl (((((HZ4.out.set_ 0 _).set_ 1 _).set_ 2 _).set_ 3 _).set_ 4 _)) rfl ?_
  have ht : Turn (fun j => j = w.heap.size) w4 (((((w4.setCell ⟨w.heap.size, 0, none⟩ (.int .i64 vw)).setCell ⟨w.heap.size, 1, none⟩ (.int .i64 ci)).setCell ⟨w.heap.size, 2, none⟩ (.int .i64 cq)).setCell ⟨w.heap.size, 3, none⟩ (.slice A3 n1 d3)).setCell ⟨w.heap.size, 4, none⟩ (.slice A4 n2 d4)) :=
    (((((Turn.refl (fun j => j = w.heap.size) w4).set_ ⟨w.heap.size, 0, none⟩ _ rfl).set_ ⟨w.heap.size, 1, none⟩ _ rfl).set_ ⟨w.heap.size, 2, none⟩ _ rfl).set_ ⟨w.heap.size, 3, none⟩ _ rfl).set_ ⟨w.heap.size, 4, none⟩ _ rfl
  obtain ⟨w5, hw5⟩ : ∃ y, (((((w4.setCell ⟨w.heap.size, 0, none⟩ (.int .i64 vw)).setCell ⟨w.heap.size, 1, none⟩ (.int .i64 ci)).setCell ⟨w.heap.size, 2, none⟩ (.int .i64 cq)).setCell ⟨w.heap.size, 3, none⟩ (.slice A3 n1 d3)).setCell ⟨w.heap.size, 4, none⟩ (.slice A4 n2 d4)) = y := ⟨_, rfl⟩
  rw [hw5] at ht ⊢
  have hrow : ∀ {b' m n : Nat} {t : TypeId} {v : Value} {xs : List Value}, w4.ownsRow b' t m v n xs → t ≠ 31 → w5.ownsRow b' t m v n xs := fun ho hne => ht.own ho (fun j hj e => own_blk_ne ho HZ4.out hne (hj.trans (congrArg some e)))
  refine ⟨A3, d3, A4, d4, rfl, ⟨?_, ?_⟩, HB4.out.trans (ht.below HB4.out.size (fun j hj e => by omega))⟩
  · exact hrow (own_base HN4.out.bt HB.out.size) (by decide)
  · exact hrow (own_base HN4.out.vs HB.out.size) (by decide)
/-- What is not adopted. -/
theorem iadopt_out (w : World) (ib : Nat) (vw ins : Int) {sq : Int} (ho : ¬ (1 ≤ sq ∧ sq ≤ 16)) (A : Option Addr) (n d : Nat) (B : Option Addr) (m d' : Nat) :
    Calls Try.prog 13 #[.pointer (some ⟨ib, 0, none⟩), .agg #[.int .i64 vw, .int .i64 ins, .int .i64 sq, .slice A n d, .slice B m d']] w fun e w' => e = .returned (.bool false) ∧ Below w.heap.size w w' := by
  have HB := Lib.hid (show Below w.heap.size w (w.alloc (.cells #[.int .i64 vw, .int .i64 ins, .int .i64 sq, .slice A n d, .slice B m d'] 31)) from (Below.refl _ _).alloc (Nat.le_refl _) _)
  have HO := Lib.hid (fun w => iat_out ib ho w)
  clear ho
  go_enter Try.func13, Try.ntmps13
  go_wp2_with fail
  refine (HO.out _).mono ?_
  rintro e w1 ⟨rfl, rfl⟩
  go_wp2_with fail
  go_quiet (fail)
  go_wp2_with fail
  go_ret
  exact ⟨rfl, HB.out.trans ⟨rfl, rfl, rfl, Nat.le_refl _, fun _ _ => rfl⟩⟩
theorem iadopt_had (h : In w ib x E) (hk : E[k]? = some e) (hc : e.x.co.isSome = true) (vw ins : Int) (A : Option Addr) (n d : Nat) (B : Option Addr) (m d' : Nat) :
    Calls Try.prog 13 #[.pointer (some ⟨ib, 0, none⟩), .agg #[.int .i64 vw, .int .i64 ins, .int .i64 ((k : Int) + 1), .slice A n d, .slice B m d']] w fun e w' => e = .returned (.bool false) ∧ Below w.heap.size w w' := by
  have HB := Lib.hid (show Below w.heap.size w (w.alloc (.cells #[.int .i64 vw, .int .i64 ins, .int .i64 ((k : Int) + 1), .slice A n d, .slice B m d'] 31)) from (Below.refl _ _).alloc (Nat.le_refl _) _)
  have HI := Lib.hid (h.below HB.out)
  have HO := Lib.hid (fun w => iat_in ib (h.k16 hk) w)
  have c2 := HI.out.cell2 hk
  have hs := ((h.all k e hk).co).isSome
  rw [hc] at hs
  cases hca : e.ca with
  | none => rw [hca] at hs; cases hs
  | some g =>
    rw [hca] at c2
    change _ = some (Value.pointer (some ⟨g, 0, none⟩)) at c2
    clear h hk hc hs hca HI
    go_enter Try.func13, Try.ntmps13
    go_wp2_with fail
    refine (HO.out _).mono ?_
    rintro e w1 ⟨rfl, rfl⟩
    go_wp2_with fail
    go_quiet (fail)
    go_wp2_with fail
    go_ret
    exact ⟨rfl, HB.out.trans ⟨rfl, rfl, rfl, Nat.le_refl _, fun _ _ => rfl⟩⟩
theorem iadopt_ins (h : In w ib x E) (hk : E[k]? = some e) (hc : e.x.co = none) (vw : Int) {ins : Int} (hi : ins ≠ x.num) (A : Option Addr) (n d : Nat) (B : Option Addr) (m d' : Nat) :
    Calls Try.prog 13 #[.pointer (some ⟨ib, 0, none⟩), .agg #[.int .i64 vw, .int .i64 ins, .int .i64 ((k : Int) + 1), .slice A n d, .slice B m d']] w fun e w' => e = .returned (.bool false) ∧ Below w.heap.size w w' := by
  have HB := Lib.hid (show Below w.heap.size w (w.alloc (.cells #[.int .i64 vw, .int .i64 ins, .int .i64 ((k : Int) + 1), .slice A n d, .slice B m d'] 31)) from (Below.refl _ _).alloc (Nat.le_refl _) _)
  have HI := Lib.hid (h.below HB.out)
  have HO := Lib.hid (fun w => iat_in ib (h.k16 hk) w)
  have c2 := HI.out.cell2 hk
  obtain ⟨c0, -, -, -⟩ := HI.out.hd
  have hs := ((h.all k e hk).co).isSome
  obtain ⟨nm, hnm⟩ : ∃ y, x.num = y := ⟨_, rfl⟩
  rw [hnm] at c0 hi
  have g1 : (ins == nm) = false := by simpa using hi
  rw [hc] at hs
  cases hca : e.ca with
  | some g => rw [hca] at hs; cases hs
  | none =>
    rw [hca] at c2
    change _ = some (Value.pointer none) at c2
    clear h hk hc hs hca HI hnm hi
    go_enter Try.func13, Try.ntmps13
    go_wp2_with fail
    refine (HO.out _).mono ?_
    rintro e w1 ⟨rfl, rfl⟩
    go_wp2_with fail
    go_quiet (fail)
    go_wp2_with fail
    go_ret
    exact ⟨rfl, HB.out.trans ⟨rfl, rfl, rfl, Nat.le_refl _, fun _ _ => rfl⟩⟩
set_option maxHeartbeats 2000000 in
theorem iadopt_in (h : In w ib x E) (hk : E[k]? = some e) (hc : e.x.co = none) (vw : Int) {b : List Rq} {v : List Vt} {A B : Option Addr} {n m B0 : Nat} (h1 : Has w B0 A (reqCells b)) (h2 : Has w B0 B (voteCells v)) (hn1 : b.length = n) (hn2 : v.length = m) (hB0 : B0 ≤ w.heap.size) (l1 : n ≤ 1000000) (l2 : m ≤ 1000000) (d d' : Nat) :
    Calls Try.prog 13 #[.pointer (some ⟨ib, 0, none⟩), .agg #[.int .i64 vw, .int .i64 x.num, .int .i64 ((k : Int) + 1), .slice A n d, .slice B m d']] w fun e' w' => e' = .returned (.bool true) ∧ IPost w ib E (x.put k ⟨e.x.s, e.x.pr, some ⟨vw, x.num, (k : Int) + 1, b, v⟩⟩) w' := by
  have HB := Lib.hid (show Below w.heap.size w (w.alloc (.cells #[.int .i64 vw, .int .i64 x.num, .int .i64 ((k : Int) + 1), .slice A n d, .slice B m d'] 31)) from (Below.refl _ _).alloc (Nat.le_refl _) _)
  have HR := Lib.hid (Blk.new w 31 #[.int .i64 vw, .int .i64 x.num, .int .i64 ((k : Int) + 1), .slice A n d, .slice B m d'])
  have H0 := Lib.hid h
  have HK0 := Lib.hid hk
  have HI := Lib.hid (h.below HB.out)
  have HO := Lib.hid (fun w => iat_in ib (h.k16 hk) w)
  have c2 := HI.out.cell2 hk
  obtain ⟨c0, -, -, -⟩ := HI.out.hd
  have hs := ((h.all k e hk).co).isSome
  have HCp := Lib.hid (fun (m' : Nat) => icopied_any (c := ⟨vw, x.num, (k : Int) + 1, b, v⟩) (w := (w.alloc (.cells #[.int .i64 vw, .int .i64 x.num, .int .i64 ((k : Int) + 1), .slice A n d, .slice B m d'] 31)).drewN m') (g := w.heap.size) (A := A) (d := d) (B := B) (e := d') (by simp only [hn1, hn2]; exact HR.out) ((h1.below (HB.out.mono hB0) (Nat.le_refl _)).drewN m') ((h2.below (HB.out.mono hB0) (Nat.le_refl _)).drewN m') (Nat.le_trans hB0 HB.out.size) (by simp only [hn1]; exact l1) (by simp only [hn2]; exact l2))
  have HN := Lib.hid (And.intro hn1 (And.intro hn2 (And.intro l1 l2)))
  simp only [hn1, hn2] at HCp
  obtain ⟨nm, hnm⟩ : ∃ y, x.num = y := ⟨_, rfl⟩
  rw [hnm] at c0 c2 HCp HB HI HR ⊢
  rw [hc] at hs
  cases hca : e.ca with
  | some g => rw [hca] at hs; cases hs
  | none =>
    rw [hca] at c2
    change _ = some (Value.pointer none) at c2
    clear h hk hc hs hca hnm h1 h2 hn1 hn2 hB0 l1 l2
    go_enter Try.func13, Try.ntmps13
    go_wp2_with fail
    refine (HO.out _).mono ?_
    rintro e1 w1 ⟨rfl, rfl⟩
    go_wp2_with fail
    go_quiet (fail)
    go_wp2_with fail
    refine (HCp.out _).mono ?_
    rintro e3 w4 ⟨A3, d3, A4, d4, rfl, hn4, hb4⟩
    have HN4 := Lib.hid hn4
    have HB4 := Lib.hid ((below_drewN HB.out nq).trans (hb4.mono HB.out.size))
    have HI4 := Lib.hid (H0.out.below HB4.out)
    have k2 := ((HI4.out.below ((Below.refl _ _).alloc (Nat.le_refl _) (.cells #[.int .i64 vw, .int .i64 nm, .int .i64 ((k : Int) + 1), .slice A3 n d3, .slice A4 m d4] 31)))).cell2 HK0.out
    have hf := (HI4.out.blk.alloc (.cells #[.int .i64 vw, .int .i64 nm, .int .i64 ((k : Int) + 1), .slice A3 n d3, .slice A4 m d4] 31)).frozen (4 + k * 3 + 2)
    clear hn4 hb4 c2
    go_wp2_with fail
    go_ret
    refine ⟨rfl, ?_⟩
    have ht : Turn (fun j => j = ib) w4 ((w4.alloc (.cells #[.int .i64 vw, .int .i64 nm, .int .i64 ((k : Int) + 1), .slice A3 n d3, .slice A4 m d4] 31)).setCell ⟨ib, 4 + k * 3 + 2, none⟩ (.pointer (some ⟨w4.heap.size, 0, none⟩))) := ((Turn.refl (fun j => j = ib) w4).alloc _).set_ ⟨ib, 4 + k * 3 + 2, none⟩ _ rfl
    have hg := (Blk.new w4 31 #[.int .i64 vw, .int .i64 nm, .int .i64 ((k : Int) + 1), .slice A3 n d3, .slice A4 m d4]).far (p := ⟨ib, 4 + k * 3 + 2, none⟩) (by have := HI4.out.blk.lt; show w4.heap.size ≠ ib; omega) (.pointer (some ⟨w4.heap.size, 0, none⟩))
    have hk5 := (HI4.out.blk.alloc (.cells #[.int .i64 vw, .int .i64 nm, .int .i64 ((k : Int) + 1), .slice A3 n d3, .slice A4 m d4] 31)).set_ (4 + k * 3 + 2) (.pointer (some ⟨w4.heap.size, 0, none⟩))
    have hrow : ∀ {b' m' n' : Nat} {t : TypeId} {v' : Value} {xs : List Value}, w4.ownsRow b' t m' v' n' xs → t ≠ 84 → ((w4.alloc (.cells #[.int .i64 vw, .int .i64 nm, .int .i64 ((k : Int) + 1), .slice A3 n d3, .slice A4 m d4] 31)).setCell ⟨ib, 4 + k * 3 + 2, none⟩ (.pointer (some ⟨w4.heap.size, 0, none⟩))).ownsRow b' t m' v' n' xs := fun ho hne => ht.own ho (fun j hj e => own_blk_ne ho HI4.out.blk hne (hj.trans (congrArg some e)))
    have r1 := hrow (own_base HN4.out.bt (Nat.zero_le _)) (by decide)
    have r2 := hrow (own_base HN4.out.vs (Nat.zero_le _)) (by decide)
    have hT : Turn (fun j => j = ib) w _ := (Turn.of_below HB4.out).trans ht
    have hp := H0.out.kept_pr HK0.out hT
    refine H0.out.store HK0.out (pa := e.pa) (ca := some w4.heap.size) (pr := e.x.pr) (co := some ⟨vw, nm, (k : Int) + 1, b, v⟩) hT (j := 2) (by omega) (u := .pointer (some ⟨w4.heap.size, 0, none⟩)) rfl hk5 hp.1 ?_
    refine CtIs.new (A := A3) (d := d3) (B := A4) (e := d4) ?_ ⟨?_, ?_⟩ (by simp only [HN.out.1]; exact HN.out.2.2.1) (by simp only [HN.out.2.1]; exact HN.out.2.2.2)
    · simp only [HN.out.1, HN.out.2.1]; exact hg
    · simp only [HN.out.1] at r1 ⊢; exact r1
    · simp only [HN.out.2.1] at r2 ⊢; exact r2
end
end Go.Proofs.Ytpdmflhbmimhgaa
namespace Go.Proofs.Ytpdmflhbmimhgaa
open Go.RowKit
set_option linter.unusedSimpArgs false

section
variable {w : World} {ib k : Nat} {x : Ix} {E : List Pe} {e : Pe}
theorem iprepared_shut (h : In w ib x E) {sq : Int} (ho : x.on = false ∨ ¬ (1 ≤ sq ∧ sq ≤ 16)) :
    Calls Try.prog 23 #[.pointer (some ⟨ib, 0, none⟩), .int .i64 sq] w fun e w' => e = .returned (.tuple #[.agg #[.int .i64 0, .int .i64 0, .int .i64 0, .slice none 0 0, .slice none 0 0], .bool false]) ∧ Below w.heap.size w w' := by
  have HB := Lib.hid (show Below w.heap.size w (w.alloc (.cells #[.int .i64 0, .int .i64 0, .int .i64 0, .slice none 0 0, .slice none 0 0] 31)) from (Below.refl _ _).alloc (Nat.le_refl _) _)
  have HO := Lib.hid (iopen_no (h.below HB.out) ho)
  clear h ho
  go_enter Try.func23, Try.ntmps23
  go_wp2_with fail
  refine HO.out.mono ?_
  rintro e w1 ⟨rfl, rfl⟩
  go_wp2_with fail
  go_quiet (fail)
  go_wp2_with fail
  (try simp only [Exit.inBlock, Exit.then])
  have HZ2 := (Blk.new w 31 #[.int .i64 0, .int .i64 0, .int .i64 0, .slice none 0 0, .slice none 0 0]).drewN nq
  refine bodyPost_ret (cert_cell2 rfl _ rfl (((((HZ2.set_ 0 _).set_ 1 _).set_ 2 _).set_ 3 _).set_ 4 _)) rfl ?_
  have hB2 := below_drewN HB.out nq
  exact ⟨rfl, hB2.trans (Turn.below (Z := fun k => k = w.heap.size) (((((((Turn.refl (fun k => k = w.heap.size) ((w.alloc (.cells #[.int .i64 0, .int .i64 0, .int .i64 0, .slice none 0 0, .slice none 0 0] 31)).drewN nq)).set_ ⟨w.heap.size, 0, none⟩ _ rfl).set_ ⟨w.heap.size, 1, none⟩ _ rfl).set_ ⟨w.heap.size, 2, none⟩ _ rfl).set_ ⟨w.heap.size, 3, none⟩ _ rfl).set_ ⟨w.heap.size, 4, none⟩ _ rfl)) hB2.size (fun k hk e => by omega))⟩
set_option maxHeartbeats 1000000 in
theorem iprepared_had (h : In w ib x E) (hk : E[k]? = some e) (hon : x.on = true) {c : Ct} (hc : e.x.pr = some c) (hv : c.vw = x.vw) :
    Calls Try.prog 23 #[.pointer (some ⟨ib, 0, none⟩), .int .i64 ((k : Int) + 1)] w fun e w' => e = .returned (.tuple #[.agg #[.int .i64 0, .int .i64 0, .int .i64 0, .slice none 0 0, .slice none 0 0], .bool false]) ∧ Below w.heap.size w w' := by
  have HB := Lib.hid (show Below w.heap.size w (w.alloc (.cells #[.int .i64 0, .int .i64 0, .int .i64 0, .slice none 0 0, .slice none 0 0] 31)) from (Below.refl _ _).alloc (Nat.le_refl _) _)
  have HI := Lib.hid (h.below HB.out)
  have HO := Lib.hid (iopen_in HI.out (h.k16 hk) hon)
  have c1 := HI.out.cell1 hk
  obtain ⟨-, -, c3, -⟩ := HI.out.hd
  have hct := (HI.out.all k e hk).pr
  rw [hc] at hct
  obtain ⟨g, A0, d0, B0, d1, hca, hct⟩ := hct.some
  rw [hca] at c1
  change _ = some (Value.pointer (some ⟨g, 0, none⟩)) at c1
  have c4 : (w.alloc (.cells #[.int .i64 0, .int .i64 0, .int .i64 0, .slice none 0 0, .slice none 0 0] 31)).cell? ⟨g, 0, none⟩ = some (.int .i64 c.vw) := hct.blk.cell 0
  rw [hv] at c4
  obtain ⟨vw, hvw⟩ : ∃ y, x.vw = y := ⟨_, rfl⟩
  rw [hvw] at c4 c3
  clear h hk hon hc hv hca HI hct hvw
  go_enter Try.func23, Try.ntmps23
  go_wp2_with fail
  refine HO.out.mono ?_
  rintro e w1 ⟨rfl, rfl⟩
  go_wp2_with fail
  go_quiet (fail)
  go_wp2_with fail
  (try simp only [Exit.inBlock, Exit.then])
  have HZ2 := (Blk.new w 31 #[.int .i64 0, .int .i64 0, .int .i64 0, .slice none 0 0, .slice none 0 0]).drewN nq
  refine bodyPost_ret (cert_cell2 rfl _ rfl (((((HZ2.set_ 0 _).set_ 1 _).set_ 2 _).set_ 3 _).set_ 4 _)) rfl ?_
  have hB2 := below_drewN HB.out nq
  exact ⟨rfl, hB2.trans (Turn.below (Z := fun k => k = w.heap.size) (((((((Turn.refl (fun k => k = w.heap.size) ((w.alloc (.cells #[.int .i64 0, .int .i64 0, .int .i64 0, .slice none 0 0, .slice none 0 0] 31)).drewN nq)).set_ ⟨w.heap.size, 0, none⟩ _ rfl).set_ ⟨w.heap.size, 1, none⟩ _ rfl).set_ ⟨w.heap.size, 2, none⟩ _ rfl).set_ ⟨w.heap.size, 3, none⟩ _ rfl).set_ ⟨w.heap.size, 4, none⟩ _ rfl)) hB2.size (fun k hk e => by omega))⟩
set_option maxHeartbeats 1000000 in
theorem iprepared_none (h : In w ib x E) (hk : E[k]? = some e) (hon : x.on = true) (hc : ∀ c, e.x.pr = some c → c.vw ≠ x.vw) {q : Nat} (hq : (q : Int) = 2 * x.f + 1) (hn : e.x.s.prep q = none) :
    Calls Try.prog 23 #[.pointer (some ⟨ib, 0, none⟩), .int .i64 ((k : Int) + 1)] w fun e w' => e = .returned (.tuple #[.agg #[.int .i64 0, .int .i64 0, .int .i64 0, .slice none 0 0, .slice none 0 0], .bool false]) ∧ Below w.heap.size w w' := by
  have HB := Lib.hid (show Below w.heap.size w (w.alloc (.cells #[.int .i64 0, .int .i64 0, .int .i64 0, .slice none 0 0, .slice none 0 0] 31)) from (Below.refl _ _).alloc (Nat.le_refl _) _)
  have HZ := Lib.hid (Blk.new w 31 #[.int .i64 0, .int .i64 0, .int .i64 0, .slice none 0 0, .slice none 0 0])
  have H0 := Lib.hid h
  have HK0 := Lib.hid hk
  have HI := Lib.hid (h.below HB.out)
  have HO := Lib.hid (iopen_in HI.out (h.k16 hk) hon)
  have c0 := HI.out.cell0 hk
  have c1 := HI.out.cell1 hk
  obtain ⟨-, -, c3, -⟩ := HI.out.hd
  have hct := (HI.out.all k e hk).pr
  have HC := Lib.hid (fun m => sprep_any ((HI.out.drewN m).all k e hk).sl hq)
  obtain ⟨sb, hsb⟩ : ∃ y, e.sb = y := ⟨_, rfl⟩
  rw [hsb] at HC c0
  rw [hn] at HC
  obtain ⟨vw, hvw⟩ : ∃ y, x.vw = y := ⟨_, rfl⟩
  rw [hvw] at c3 hc
  cases hpr : e.x.pr with
  | none =>
    rw [hpr] at hct
    have hpa : e.pa = none := by
      cases hpa : e.pa with
      | none => rfl
      | some g => rw [hpa] at hct; cases hct
    rw [hpa] at c1
    change _ = some (Value.pointer none) at c1
    clear h hk hon hc hct hpa hpr hvw hq hsb hn HI
    go_enter Try.func23, Try.ntmps23
    go_wp2_with fail
    refine HO.out.mono ?_
    rintro e1 w1 ⟨rfl, rfl⟩
    go_wp2_with fail
    go_quiet (fail)
    go_wp2_with fail
    refine (HC.out _).mono ?_
    rintro e2 w2 ⟨u1, rfl, ho1, hb⟩
    obtain ⟨A1, d1, rfl, -, -⟩ := own_slice ho1
    have HZ2 := Lib.hid ((HZ.out.drewN nq).below hb HZ.out.lt)
    obtain ⟨e0, e1, e2, e3, e4, f0, f1, f2, f3, f4⟩ := blk_cells5 HZ2.out
    have HB2 := Lib.hid ((below_drewN HB.out nq).trans (hb.mono HB.out.size))
    clear ho1 hb c0 c1 c3
    go_wp2_with fail
    (try simp only [Exit.inBlock, Exit.then])
    refine bodyPost_ret (cert_cell2 rfl _ rfl (((((HZ2.out.set_ 0 _).set_ 1 _).set_ 2 _).set_ 3 _).set_ 4 _)) rfl ?_
    refine ⟨rfl, HB2.out.trans (Turn.below (Z := fun k => k = w.heap.size) (((((((Turn.refl (fun k => k = w.heap.size) w2).set_ ⟨w.heap.size, 0, none⟩ _ rfl).set_ ⟨w.heap.size, 1, none⟩ _ rfl).set_ ⟨w.heap.size, 2, none⟩ _ rfl).set_ ⟨w.heap.size, 3, none⟩ _ rfl).set_ ⟨w.heap.size, 4, none⟩ _ rfl)) HB2.out.size (fun k hk e => by omega))⟩
  | some c =>
    rw [hpr] at hct
    have hne := hc c hpr
    obtain ⟨g, A0, d0, B0, d1, hpa, hct⟩ := hct.some
    rw [hpa] at c1
    change _ = some (Value.pointer (some ⟨g, 0, none⟩)) at c1
    have c4 : (w.alloc (.cells #[.int .i64 0, .int .i64 0, .int .i64 0, .slice none 0 0, .slice none 0 0] 31)).cell? ⟨g, 0, none⟩ = some (.int .i64 c.vw) := hct.blk.cell 0
    obtain ⟨vc, hvc⟩ : ∃ y, c.vw = y := ⟨_, rfl⟩
    rw [hvc] at c4 hne
    have gv : (vc == vw) = false := by simpa using hne
    clear h hk hon hc hct hpa hpr hvw hvc hne hq hsb hn HI
    go_enter Try.func23, Try.ntmps23
    go_wp2_with fail
    refine HO.out.mono ?_
    rintro e1 w1 ⟨rfl, rfl⟩
    go_wp2_with fail
    go_quiet (fail)
    go_wp2_with fail
    refine (HC.out _).mono ?_
    rintro e2 w2 ⟨u1, rfl, ho1, hb⟩
    obtain ⟨A1, d1, rfl, -, -⟩ := own_slice ho1
    have HZ2 := Lib.hid ((HZ.out.drewN nq).below hb HZ.out.lt)
    obtain ⟨e0, e1, e2, e3, e4, f0, f1, f2, f3, f4⟩ := blk_cells5 HZ2.out
    have HB2 := Lib.hid ((below_drewN HB.out nq).trans (hb.mono HB.out.size))
    clear ho1 hb c0 c1 c3 c4
    go_wp2_with fail
    (try simp only [Exit.inBlock, Exit.then])
    refine bodyPost_ret (cert_cell2 rfl _ rfl (((((HZ2.out.set_ 0 _).set_ 1 _).set_ 2 _).set_ 3 _).set_ 4 _)) rfl ?_
    refine ⟨rfl, HB2.out.trans (Turn.below (Z := fun k => k = w.heap.size) (((((((Turn.refl (fun k => k = w.heap.size) w2).set_ ⟨w.heap.size, 0, none⟩ _ rfl).set_ ⟨w.heap.size, 1, none⟩ _ rfl).set_ ⟨w.heap.size, 2, none⟩ _ rfl).set_ ⟨w.heap.size, 3, none⟩ _ rfl).set_ ⟨w.heap.size, 4, none⟩ _ rfl)) HB2.out.size (fun k hk e => by omega))⟩
set_option maxRecDepth 100000 in
set_option maxHeartbeats 4000000 in
theorem iprepared_in (h : In w ib x E) (hk : E[k]? = some e) (hon : x.on = true) (hc : ∀ c, e.x.pr = some c → c.vw ≠ x.vw) {q : Nat} (hq : (q : Int) = 2 * x.f + 1) {b : List Rq} {v : List Vt} (hn : e.x.s.prep q = some v) (hb : e.x.s.ch = some b) :
    Calls Try.prog 23 #[.pointer (some ⟨ib, 0, none⟩), .int .i64 ((k : Int) + 1)] w fun e' w' => ∃ A d B d', e' = .returned (.tuple #[.agg #[.int .i64 x.vw, .int .i64 x.num, .int .i64 ((k : Int) + 1), .slice A b.length d, .slice B v.length d'], .bool true]) ∧ CtNew w' w.heap.size ⟨x.vw, x.num, (k : Int) + 1, b, v⟩ A d B d' ∧ IPost w ib E (x.put k ⟨e.x.s, some ⟨x.vw, x.num, (k : Int) + 1, b, v⟩, e.x.co⟩) w' := by
  have HB := Lib.hid (show Below w.heap.size w (w.alloc (.cells #[.int .i64 0, .int .i64 0, .int .i64 0, .slice none 0 0, .slice none 0 0] 31)) from (Below.refl _ _).alloc (Nat.le_refl _) _)
  have HZ := Lib.hid (Blk.new w 31 #[.int .i64 0, .int .i64 0, .int .i64 0, .slice none 0 0, .slice none 0 0])
  have H0 := Lib.hid h
  have HK0 := Lib.hid hk
  have HI := Lib.hid (h.below HB.out)
  have HO := Lib.hid (iopen_in HI.out (h.k16 hk) hon)
  have c0 := HI.out.cell0 hk
  have c1 := HI.out.cell1 hk
  obtain ⟨-, -, c3, -⟩ := HI.out.hd
  have hct := (HI.out.all k e hk).pr
  have HC := Lib.hid (fun m => sprep_any ((HI.out.drewN m).all k e hk).sl hq)
  obtain ⟨sb, hsb⟩ : ∃ y, e.sb = y := ⟨_, rfl⟩
  rw [hsb] at HC c0
  have HLow := Lib.hid (show b.length ≤ 1000000 ∧ v.length ≤ 1000000 from by
    obtain ⟨cv, M1, M2, _, h2, _, _⟩ := (h.all k e hk).sl.mem
    have h1 := h2.low
    have hd : decS e.x.s.P b q = some v := by
      have := hn
      unfold Sx.prep at this
      rw [hb] at this
      exact this
    have h3 := (decS_is hd).2.2
    have := h.f4
    rw [hb] at h1
    exact ⟨h1, by omega⟩)
  have HCh := Lib.hid (fun (u : World) (hu : Below w.heap.size w u) => schosen_any ((h.below hu).all k e hk).sl)
  rw [hb] at HCh
  simp only [Option.getD_some, Option.isSome_some] at HCh
  rw [hsb] at HCh
  rw [hn] at HC
  simp only [vtsOf, Option.getD_some, Option.isSome_some] at HC
  obtain ⟨n1, hn1⟩ : ∃ y, b.length = y := ⟨_, rfl⟩
  obtain ⟨n2, hn2⟩ : ∃ y, v.length = y := ⟨_, rfl⟩
  obtain ⟨vw, hvw⟩ : ∃ y, x.vw = y := ⟨_, rfl⟩
  obtain ⟨nm, hnm⟩ : ∃ y, x.num = y := ⟨_, rfl⟩
  have HN := Lib.hid (And.intro hn1 (And.intro hn2 (And.intro hvw hnm)))
  rw [hn1] at HCh
  rw [hn2] at HC
  rw [hvw] at c3 hc
  have HSb := Lib.hid hsb
  cases hpr : e.x.pr with
  | none =>
    rw [hpr] at hct
    have hpa : e.pa = none := by
      cases hpa : e.pa with
      | none => rfl
      | some g => rw [hpa] at hct; cases hct
    rw [hpa] at c1
    change _ = some (Value.pointer none) at c1
    clear h hk hon hc hct hpa hpr hvw hq hsb hn HI hnm hn1 hn2 hb
    go_enter Try.func23, Try.ntmps23
    go_wp2_with fail
    refine HO.out.mono ?_
    rintro e1 w1 ⟨rfl, rfl⟩
    go_wp2_with fail
    go_quiet (fail)
    go_wp2_with fail
    refine (HC.out _).mono ?_
    rintro e2 w8 ⟨u2, rfl, ho2, hb⟩
    have HB8 := Lib.hid ((below_drewN HB.out nq).trans (hb.mono HB.out.size))
    have HO8 := Lib.hid ho2
    have HZ8 := Lib.hid ((HZ.out.drewN nq).below hb HZ.out.lt)
    obtain ⟨A2, d2, rfl, -, -⟩ := own_slice ho2
    have c0 := (H0.out.below HB8.out).cell0 HK0.out
    rw [HSb.out] at c0
    go_wp2_with fail
    refine (HCh.out _ HB8.out).mono ?_
    rintro e3 w2 ⟨u1, rfl, ho1, hb3⟩
    have HO1 := Lib.hid ho1
    have HO2 := Lib.hid (below_own HO8.out hb3 (Nat.le_refl _))
    obtain ⟨A1, d1, rfl, -, -⟩ := own_slice ho1
    have HZ2 := Lib.hid (HZ8.out.below hb3 HZ8.out.lt)
    have HB2 := Lib.hid (HB8.out.trans (hb3.mono HB8.out.size))
    have HI2 := Lib.hid (H0.out.below HB2.out)
    have HI3 := Lib.hid (show In w2.drew ib x E from HI2.out.drewN 1)
    obtain ⟨h0, -, h2, -⟩ := HI3.out.hd
    rw [HN.out.2.2.1] at h2
    rw [HN.out.2.2.2] at h0
    have hq1 := And.intro h2 h0
    have hq2 : ∀ o : Obj, (w2.alloc o).drew.cell? ⟨ib, 2, none⟩ = some (.int .i64 vw) ∧ (w2.alloc o).drew.cell? ⟨ib, 0, none⟩ = some (.int .i64 nm) := fun o => by
      have hd := ((HI2.out.below ((Below.refl _ _).alloc (Nat.le_refl _) o)).drewN 1).hd
      rw [HN.out.2.2.1, HN.out.2.2.2] at hd
      exact ⟨hd.2.2.1, hd.1⟩
    have HI4 := Lib.hid (show In (w2.alloc (.cells #[.int .i64 vw, .int .i64 nm, .int .i64 ((k : Int) + 1), .slice A1 n1 d1, .slice A2 n2 d2] 31)).drew ib x E from (HI2.out.below ((Below.refl _ _).alloc (Nat.le_refl _) _)).drewN 1)
    have k2 := HI4.out.cell1 HK0.out
    have hf := HI4.out.blk.frozen (4 + k * 3 + 1)
    have hq3 : ∀ (o : Obj) (u : Value), ((w2.alloc o).setCell ⟨ib, 4 + k * 3 + 1, none⟩ u).drew.cell? ⟨ib, 2, none⟩ = some (.int .i64 vw) ∧ ((w2.alloc o).setCell ⟨ib, 4 + k * 3 + 1, none⟩ u).drew.cell? ⟨ib, 0, none⟩ = some (.int .i64 nm) := fun o u => by
      have b := ((HI2.out.blk.alloc o).set_ (4 + k * 3 + 1) u).drew
      refine ⟨?_, ?_⟩
      · rw [b.cell, Array.getElem?_setIfInBounds_ne (by omega), ← HI2.out.blk.drew.cell]; exact hq1.1
      · rw [b.cell, Array.getElem?_setIfInBounds_ne (by omega), ← HI2.out.blk.drew.cell]; exact hq1.2
    clear ho1 ho2 hb hb3 h0 h2 c0 c1 c3
    go_wp2_with fail
    go_region_held3 (fun w' => w'.cell? ⟨ib, 2, none⟩ = some (.int .i64 vw) ∧ w'.cell? ⟨ib, 0, none⟩ = some (.int .i64 nm)) (first | with_reducible exact hq1 | with_reducible exact hq2 _ | with_reducible exact hq3 _ _ | go_keep) (fail)
    have g0 : w2.heap.size < (w2.alloc (.cells #[.int .i64 vw, .int .i64 nm, .int .i64 ((k : Int) + 1), .slice A1 n1 d1, .slice A2 n2 d2] 31)).heap.size := by simp
    have HT3 := Lib.hid (show Turn (fun j => j = ib) w ((w2.alloc (.cells #[.int .i64 vw, .int .i64 nm, .int .i64 ((k : Int) + 1), .slice A1 n1 d1, .slice A2 n2 d2] 31)).setCell ⟨ib, 4 + k * 3 + 1, none⟩ (.pointer (some ⟨w2.heap.size, 0, none⟩))).drew from ((((Turn.of_below (Z := fun j => j = ib) HB2.out).alloc _).set_ ⟨ib, 4 + k * 3 + 1, none⟩ _ rfl).drewN 1))
    have HK3 := Lib.hid (show Blk ((w2.alloc (.cells #[.int .i64 vw, .int .i64 nm, .int .i64 ((k : Int) + 1), .slice A1 n1 d1, .slice A2 n2 d2] 31)).setCell ⟨ib, 4 + k * 3 + 1, none⟩ (.pointer (some ⟨w2.heap.size, 0, none⟩))).drew ib _ _ from ((HI2.out.blk.alloc (.cells #[.int .i64 vw, .int .i64 nm, .int .i64 ((k : Int) + 1), .slice A1 n1 d1, .slice A2 n2 d2] 31)).set_ (4 + k * 3 + 1) _).drew)
    have HG3 := Lib.hid (show Blk ((w2.alloc (.cells #[.int .i64 vw, .int .i64 nm, .int .i64 ((k : Int) + 1), .slice A1 n1 d1, .slice A2 n2 d2] 31)).setCell ⟨ib, 4 + k * 3 + 1, none⟩ (.pointer (some ⟨w2.heap.size, 0, none⟩))).drew w2.heap.size _ _ from ((Blk.new w2 _ _).far (by have := HI2.out.blk.lt; show w2.heap.size ≠ ib; omega) _).drew)
    have HZ3 := Lib.hid (show Blk ((w2.alloc (.cells #[.int .i64 vw, .int .i64 nm, .int .i64 ((k : Int) + 1), .slice A1 n1 d1, .slice A2 n2 d2] 31)).setCell ⟨ib, 4 + k * 3 + 1, none⟩ (.pointer (some ⟨w2.heap.size, 0, none⟩))).drew w.heap.size _ _ from ((HZ2.out.alloc _).far (HZ2.out.ne_ HI2.out.blk (by decide)) _).drew)
    have HT23 := Lib.hid (show Turn (fun j => j = ib) w2 ((w2.alloc (.cells #[.int .i64 vw, .int .i64 nm, .int .i64 ((k : Int) + 1), .slice A1 n1 d1, .slice A2 n2 d2] 31)).setCell ⟨ib, 4 + k * 3 + 1, none⟩ (.pointer (some ⟨w2.heap.size, 0, none⟩))).drew from ((((Turn.refl (fun j => j = ib) w2).alloc _).set_ ⟨ib, 4 + k * 3 + 1, none⟩ _ rfl).drewN 1))
    have HP1 := Lib.hid (HT23.out.own HO1.out (fun j hj e => own_blk_ne HO1.out HI2.out.blk (by decide) (hj.trans (congrArg some e))))
    have HP2 := Lib.hid (HT23.out.own HO2.out (fun j hj e => own_blk_ne HO2.out HI2.out.blk (by decide) (hj.trans (congrArg some e))))
    have HGr := Lib.hid (show w2.heap.size ≠ w.heap.size from by have := HZ2.out.lt; omega)
    obtain ⟨w3, hw3⟩ : ∃ y, ((w2.alloc (.cells #[.int .i64 vw, .int .i64 nm, .int .i64 ((k : Int) + 1), .slice A1 n1 d1, .slice A2 n2 d2] 31)).setCell ⟨ib, 4 + k * 3 + 1, none⟩ (.pointer (some ⟨w2.heap.size, 0, none⟩))).drew = y := ⟨_, rfl⟩
    obtain ⟨g, hg⟩ : ∃ y, w2.heap.size = y := ⟨_, rfl⟩
    rw [hg] at HK3 HGr hw3 HG3 HZ3 HT3 HP1 HP2
    rw [hg, hw3]
    rw [hw3] at HK3 HG3 HZ3 HT3 HP1 HP2
    have k3 : w3.cell? ⟨ib, 4 + k * 3 + 1, none⟩ = some (.pointer (some ⟨g, 0, none⟩)) := by
      rw [HK3.out.cell, Array.getElem?_setIfInBounds_self_of_lt]
      show _ < (hdI x ++ peCells E).toArray.size
      have := H0.out.k16 HK0.out
      have := H0.out.ln
      rw [List.size_toArray, List.length_append, peCells_len]
      show _ < 4 + _
      omega
    have HCp := Lib.hid (icopied_any (c := ⟨vw, nm, (k : Int) + 1, b, v⟩) (w := w3) (g := g) (A := A1) (d := d1) (B := A2) (e := d2) (by rw [HN.out.1, HN.out.2.1]; exact HG3.out) (has_rows HP1.out) (has_rows HP2.out) (Nat.le_refl _) HLow.out.1 HLow.out.2)
    simp only [HN.out.1, HN.out.2.1] at HCp
    clear hw3 hg HT23 HO1 HO2 HI2 HI3 HI4 hq1 hq2 hq3 k2 hf g0 HZ2 HB2
    go_wp2_with fail
    refine HCp.out.mono ?_
    rintro e3 w4 ⟨A3, d3, A4, d4, rfl, hn4, hb4⟩
    have HZ4 := Lib.hid (HZ3.out.below hb4 HZ3.out.lt)
    obtain ⟨e0, e1, e2, e3, e4, f0, f1, f2, f3, f4⟩ := blk_cells5 HZ4.out
    have HN4 := Lib.hid hn4
    have HB4 := Lib.hid hb4
    clear hn4 hb4 k3
    go_wp2_with fail
    (try simp only [Exit.inBlock, Exit.then])
    refine bodyPost_ret (cert_cell2 rfl _ rfl (((((HZ4.out.set_ 0 _).set_ 1 _).set_ 2 _).set_ 3 _).set_ 4 _)) rfl ?_
    have ht : Turn (fun j => j = w.heap.size) w4 (((((w4.setCell ⟨w.heap.size, 0, none⟩ (.int .i64 vw)).setCell ⟨w.heap.size, 1, none⟩ (.int .i64 nm)).setCell ⟨w.heap.size, 2, none⟩ (.int .i64 ((k : Int) + 1))).setCell ⟨w.heap.size, 3, none⟩ (.slice A3 n1 d3)).setCell ⟨w.heap.size, 4, none⟩ (.slice A4 n2 d4)) :=
      (((((Turn.refl (fun j => j = w.heap.size) w4).set_ ⟨w.heap.size, 0, none⟩ _ rfl).set_ ⟨w.heap.size, 1, none⟩ _ rfl).set_ ⟨w.heap.size, 2, none⟩ _ rfl).set_ ⟨w.heap.size, 3, none⟩ _ rfl).set_ ⟨w.heap.size, 4, none⟩ _ rfl
    obtain ⟨w5, hw5⟩ : ∃ y, (((((w4.setCell ⟨w.heap.size, 0, none⟩ (.int .i64 vw)).setCell ⟨w.heap.size, 1, none⟩ (.int .i64 nm)).setCell ⟨w.heap.size, 2, none⟩ (.int .i64 ((k : Int) + 1))).setCell ⟨w.heap.size, 3, none⟩ (.slice A3 n1 d3)).setCell ⟨w.heap.size, 4, none⟩ (.slice A4 n2 d4)) = y := ⟨_, rfl⟩
    rw [hw5] at ht ⊢
    have hrow : ∀ {b' m n : Nat} {t : TypeId} {v : Value} {xs : List Value}, w4.ownsRow b' t m v n xs → t ≠ 31 → w5.ownsRow b' t m v n xs := fun ho hne => ht.own ho (fun j hj e => own_blk_ne ho HZ4.out hne (hj.trans (congrArg some e)))
    have hT5 : Turn (fun j => j = ib) w w5 := (HT3.out.trans (Turn.of_below HB4.out)).more ht (fun j e => Or.inl (by omega))
    refine ⟨A3, d3, A4, d4, ?_, ⟨?_, ?_⟩, ?_⟩
    · rw [HN.out.1, HN.out.2.1, HN.out.2.2.1, HN.out.2.2.2]; rfl
    · have h4 := HN4.out.bt
      simp only [HN.out.1] at h4 ⊢
      exact hrow (own_base h4 HT3.out.size) (by decide)
    · have h4 := HN4.out.vs
      simp only [HN.out.2.1] at h4 ⊢
      exact hrow (own_base h4 HT3.out.size) (by decide)
    · rw [HN.out.2.2.1, HN.out.2.2.2]
      have hp := H0.out.kept_pr HK0.out hT5
      refine H0.out.store HK0.out (pa := some g) (ca := e.ca) (pr := some ⟨vw, nm, (k : Int) + 1, b, v⟩) (co := e.x.co) hT5 (j := 1) (by omega) (u := .pointer (some ⟨g, 0, none⟩)) rfl ?_ ?_ hp.2
      · exact ht.blk (HK3.out.below HB4.out HK3.out.lt) (HZ4.out.ne_ (HK3.out.below HB4.out HK3.out.lt) (by decide)).symm
      · have h5 := ht.blk (HG3.out.below HB4.out HG3.out.lt) HGr.out
        refine CtIs.new (A := A1) (d := d1) (B := A2) (e := d2) ?_ ⟨?_, ?_⟩ HLow.out.1 HLow.out.2
        · show Blk w5 g _ #[.int .i64 vw, .int .i64 nm, .int .i64 ((k : Int) + 1), .slice A1 b.length d1, .slice A2 v.length d2]
          rw [HN.out.1, HN.out.2.1]; exact h5
        · simp only [HN.out.1]; exact hrow (own_base (below_own HP1.out HB4.out (Nat.le_refl _)) (Nat.zero_le _)) (by decide)
        · simp only [HN.out.2.1]; exact hrow (own_base (below_own HP2.out HB4.out (Nat.le_refl _)) (Nat.zero_le _)) (by decide)
  | some c =>
    rw [hpr] at hct
    have hne := hc c hpr
    obtain ⟨g, A0, d0, B0, d1, hpa, hct⟩ := hct.some
    rw [hpa] at c1
    change _ = some (Value.pointer (some ⟨g, 0, none⟩)) at c1
    have c4 : (w.alloc (.cells #[.int .i64 0, .int .i64 0, .int .i64 0, .slice none 0 0, .slice none 0 0] 31)).cell? ⟨g, 0, none⟩ = some (.int .i64 c.vw) := hct.blk.cell 0
    obtain ⟨vc, hvc⟩ : ∃ y, c.vw = y := ⟨_, rfl⟩
    rw [hvc] at c4 hne
    have gv : (vc == vw) = false := by simpa using hne
    clear h hk hon hc hct hpa hpr hvw hvc hne hq hsb hn HI hnm hn1 hn2 hb
    go_enter Try.func23, Try.ntmps23
    go_wp2_with fail
    refine HO.out.mono ?_
    rintro e1 w1 ⟨rfl, rfl⟩
    go_wp2_with fail
    go_quiet (fail)
    go_wp2_with fail
    refine (HC.out _).mono ?_
    rintro e2 w8 ⟨u2, rfl, ho2, hb⟩
    have HB8 := Lib.hid ((below_drewN HB.out nq).trans (hb.mono HB.out.size))
    have HO8 := Lib.hid ho2
    have HZ8 := Lib.hid ((HZ.out.drewN nq).below hb HZ.out.lt)
    obtain ⟨A2, d2, rfl, -, -⟩ := own_slice ho2
    have c0 := (H0.out.below HB8.out).cell0 HK0.out
    rw [HSb.out] at c0
    go_wp2_with fail
    refine (HCh.out _ HB8.out).mono ?_
    rintro e3 w2 ⟨u1, rfl, ho1, hb3⟩
    have HO1 := Lib.hid ho1
    have HO2 := Lib.hid (below_own HO8.out hb3 (Nat.le_refl _))
    obtain ⟨A1, d1, rfl, -, -⟩ := own_slice ho1
    have HZ2 := Lib.hid (HZ8.out.below hb3 HZ8.out.lt)
    have HB2 := Lib.hid (HB8.out.trans (hb3.mono HB8.out.size))
    have HI2 := Lib.hid (H0.out.below HB2.out)
    have HI3 := Lib.hid (show In w2.drew ib x E from HI2.out.drewN 1)
    obtain ⟨h0, -, h2, -⟩ := HI3.out.hd
    rw [HN.out.2.2.1] at h2
    rw [HN.out.2.2.2] at h0
    have hq1 := And.intro h2 h0
    have hq2 : ∀ o : Obj, (w2.alloc o).drew.cell? ⟨ib, 2, none⟩ = some (.int .i64 vw) ∧ (w2.alloc o).drew.cell? ⟨ib, 0, none⟩ = some (.int .i64 nm) := fun o => by
      have hd := ((HI2.out.below ((Below.refl _ _).alloc (Nat.le_refl _) o)).drewN 1).hd
      rw [HN.out.2.2.1, HN.out.2.2.2] at hd
      exact ⟨hd.2.2.1, hd.1⟩
    have HI4 := Lib.hid (show In (w2.alloc (.cells #[.int .i64 vw, .int .i64 nm, .int .i64 ((k : Int) + 1), .slice A1 n1 d1, .slice A2 n2 d2] 31)).drew ib x E from (HI2.out.below ((Below.refl _ _).alloc (Nat.le_refl _) _)).drewN 1)
    have k2 := HI4.out.cell1 HK0.out
    have hf := HI4.out.blk.frozen (4 + k * 3 + 1)
    have hq3 : ∀ (o : Obj) (u : Value), ((w2.alloc o).setCell ⟨ib, 4 + k * 3 + 1, none⟩ u).drew.cell? ⟨ib, 2, none⟩ = some (.int .i64 vw) ∧ ((w2.alloc o).setCell ⟨ib, 4 + k * 3 + 1, none⟩ u).drew.cell? ⟨ib, 0, none⟩ = some (.int .i64 nm) := fun o u => by
      have b := ((HI2.out.blk.alloc o).set_ (4 + k * 3 + 1) u).drew
      refine ⟨?_, ?_⟩
      · rw [b.cell, Array.getElem?_setIfInBounds_ne (by omega), ← HI2.out.blk.drew.cell]; exact hq1.1
      · rw [b.cell, Array.getElem?_setIfInBounds_ne (by omega), ← HI2.out.blk.drew.cell]; exact hq1.2
    clear ho1 ho2 hb hb3 h0 h2 c0 c1 c3 c4
    go_wp2_with fail
    go_region_held3 (fun w' => w'.cell? ⟨ib, 2, none⟩ = some (.int .i64 vw) ∧ w'.cell? ⟨ib, 0, none⟩ = some (.int .i64 nm)) (first | with_reducible exact hq1 | with_reducible exact hq2 _ | with_reducible exact hq3 _ _ | go_keep) (fail)
    have g0 : w2.heap.size < (w2.alloc (.cells #[.int .i64 vw, .int .i64 nm, .int .i64 ((k : Int) + 1), .slice A1 n1 d1, .slice A2 n2 d2] 31)).heap.size := by simp
    have HT3 := Lib.hid (show Turn (fun j => j = ib) w ((w2.alloc (.cells #[.int .i64 vw, .int .i64 nm, .int .i64 ((k : Int) + 1), .slice A1 n1 d1, .slice A2 n2 d2] 31)).setCell ⟨ib, 4 + k * 3 + 1, none⟩ (.pointer (some ⟨w2.heap.size, 0, none⟩))).drew from ((((Turn.of_below (Z := fun j => j = ib) HB2.out).alloc _).set_ ⟨ib, 4 + k * 3 + 1, none⟩ _ rfl).drewN 1))
    have HK3 := Lib.hid (show Blk ((w2.alloc (.cells #[.int .i64 vw, .int .i64 nm, .int .i64 ((k : Int) + 1), .slice A1 n1 d1, .slice A2 n2 d2] 31)).setCell ⟨ib, 4 + k * 3 + 1, none⟩ (.pointer (some ⟨w2.heap.size, 0, none⟩))).drew ib _ _ from ((HI2.out.blk.alloc (.cells #[.int .i64 vw, .int .i64 nm, .int .i64 ((k : Int) + 1), .slice A1 n1 d1, .slice A2 n2 d2] 31)).set_ (4 + k * 3 + 1) _).drew)
    have HG3 := Lib.hid (show Blk ((w2.alloc (.cells #[.int .i64 vw, .int .i64 nm, .int .i64 ((k : Int) + 1), .slice A1 n1 d1, .slice A2 n2 d2] 31)).setCell ⟨ib, 4 + k * 3 + 1, none⟩ (.pointer (some ⟨w2.heap.size, 0, none⟩))).drew w2.heap.size _ _ from ((Blk.new w2 _ _).far (by have := HI2.out.blk.lt; show w2.heap.size ≠ ib; omega) _).drew)
    have HZ3 := Lib.hid (show Blk ((w2.alloc (.cells #[.int .i64 vw, .int .i64 nm, .int .i64 ((k : Int) + 1), .slice A1 n1 d1, .slice A2 n2 d2] 31)).setCell ⟨ib, 4 + k * 3 + 1, none⟩ (.pointer (some ⟨w2.heap.size, 0, none⟩))).drew w.heap.size _ _ from ((HZ2.out.alloc _).far (HZ2.out.ne_ HI2.out.blk (by decide)) _).drew)
    have HT23 := Lib.hid (show Turn (fun j => j = ib) w2 ((w2.alloc (.cells #[.int .i64 vw, .int .i64 nm, .int .i64 ((k : Int) + 1), .slice A1 n1 d1, .slice A2 n2 d2] 31)).setCell ⟨ib, 4 + k * 3 + 1, none⟩ (.pointer (some ⟨w2.heap.size, 0, none⟩))).drew from ((((Turn.refl (fun j => j = ib) w2).alloc _).set_ ⟨ib, 4 + k * 3 + 1, none⟩ _ rfl).drewN 1))
    have HP1 := Lib.hid (HT23.out.own HO1.out (fun j hj e => own_blk_ne HO1.out HI2.out.blk (by decide) (hj.trans (congrArg some e))))
    have HP2 := Lib.hid (HT23.out.own HO2.out (fun j hj e => own_blk_ne HO2.out HI2.out.blk (by decide) (hj.trans (congrArg some e))))
    have HGr := Lib.hid (show w2.heap.size ≠ w.heap.size from by have := HZ2.out.lt; omega)
    obtain ⟨w3, hw3⟩ : ∃ y, ((w2.alloc (.cells #[.int .i64 vw, .int .i64 nm, .int .i64 ((k : Int) + 1), .slice A1 n1 d1, .slice A2 n2 d2] 31)).setCell ⟨ib, 4 + k * 3 + 1, none⟩ (.pointer (some ⟨w2.heap.size, 0, none⟩))).drew = y := ⟨_, rfl⟩
    obtain ⟨g, hg⟩ : ∃ y, w2.heap.size = y := ⟨_, rfl⟩
    rw [hg] at HK3 HGr hw3 HG3 HZ3 HT3 HP1 HP2
    rw [hg, hw3]
    rw [hw3] at HK3 HG3 HZ3 HT3 HP1 HP2
    have k3 : w3.cell? ⟨ib, 4 + k * 3 + 1, none⟩ = some (.pointer (some ⟨g, 0, none⟩)) := by
      rw [HK3.out.cell, Array.getElem?_setIfInBounds_self_of_lt]
      show _ < (hdI x ++ peCells E).toArray.size
      have := H0.out.k16 HK0.out
      have := H0.out.ln
      rw [List.size_toArray, List.length_append, peCells_len]
      show _ < 4 + _
      omega
    have HCp := Lib.hid (icopied_any (c := ⟨vw, nm, (k : Int) + 1, b, v⟩) (w := w3) (g := g) (A := A1) (d := d1) (B := A2) (e := d2) (by rw [HN.out.1, HN.out.2.1]; exact HG3.out) (has_rows HP1.out) (has_rows HP2.out) (Nat.le_refl _) HLow.out.1 HLow.out.2)
    simp only [HN.out.1, HN.out.2.1] at HCp
    clear hw3 hg HT23 HO1 HO2 HI2 HI3 HI4 hq1 hq2 hq3 k2 hf g0 HZ2 HB2
    go_wp2_with fail
    refine HCp.out.mono ?_
    rintro e3 w4 ⟨A3, d3, A4, d4, rfl, hn4, hb4⟩
    have HZ4 := Lib.hid (HZ3.out.below hb4 HZ3.out.lt)
    obtain ⟨e0, e1, e2, e3, e4, f0, f1, f2, f3, f4⟩ := blk_cells5 HZ4.out
    have HN4 := Lib.hid hn4
    have HB4 := Lib.hid hb4
    clear hn4 hb4 k3
    go_wp2_with fail
    (try simp only [Exit.inBlock, Exit.then])
    refine bodyPost_ret (cert_cell2 rfl _ rfl (((((HZ4.out.set_ 0 _).set_ 1 _).set_ 2 _).set_ 3 _).set_ 4 _)) rfl ?_
    have ht : Turn (fun j => j = w.heap.size) w4 (((((w4.setCell ⟨w.heap.size, 0, none⟩ (.int .i64 vw)).setCell ⟨w.heap.size, 1, none⟩ (.int .i64 nm)).setCell ⟨w.heap.size, 2, none⟩ (.int .i64 ((k : Int) + 1))).setCell ⟨w.heap.size, 3, none⟩ (.slice A3 n1 d3)).setCell ⟨w.heap.size, 4, none⟩ (.slice A4 n2 d4)) :=
      (((((Turn.refl (fun j => j = w.heap.size) w4).set_ ⟨w.heap.size, 0, none⟩ _ rfl).set_ ⟨w.heap.size, 1, none⟩ _ rfl).set_ ⟨w.heap.size, 2, none⟩ _ rfl).set_ ⟨w.heap.size, 3, none⟩ _ rfl).set_ ⟨w.heap.size, 4, none⟩ _ rfl
    obtain ⟨w5, hw5⟩ : ∃ y, (((((w4.setCell ⟨w.heap.size, 0, none⟩ (.int .i64 vw)).setCell ⟨w.heap.size, 1, none⟩ (.int .i64 nm)).setCell ⟨w.heap.size, 2, none⟩ (.int .i64 ((k : Int) + 1))).setCell ⟨w.heap.size, 3, none⟩ (.slice A3 n1 d3)).setCell ⟨w.heap.size, 4, none⟩ (.slice A4 n2 d4)) = y := ⟨_, rfl⟩
    rw [hw5] at ht ⊢
    have hrow : ∀ {b' m n : Nat} {t : TypeId} {v : Value} {xs : List Value}, w4.ownsRow b' t m v n xs → t ≠ 31 → w5.ownsRow b' t m v n xs := fun ho hne => ht.own ho (fun j hj e => own_blk_ne ho HZ4.out hne (hj.trans (congrArg some e)))
    have hT5 : Turn (fun j => j = ib) w w5 := (HT3.out.trans (Turn.of_below HB4.out)).more ht (fun j e => Or.inl (by omega))
    refine ⟨A3, d3, A4, d4, ?_, ⟨?_, ?_⟩, ?_⟩
    · rw [HN.out.1, HN.out.2.1, HN.out.2.2.1, HN.out.2.2.2]; rfl
    · have h4 := HN4.out.bt
      simp only [HN.out.1] at h4 ⊢
      exact hrow (own_base h4 HT3.out.size) (by decide)
    · have h4 := HN4.out.vs
      simp only [HN.out.2.1] at h4 ⊢
      exact hrow (own_base h4 HT3.out.size) (by decide)
    · rw [HN.out.2.2.1, HN.out.2.2.2]
      have hp := H0.out.kept_pr HK0.out hT5
      refine H0.out.store HK0.out (pa := some g) (ca := e.ca) (pr := some ⟨vw, nm, (k : Int) + 1, b, v⟩) (co := e.x.co) hT5 (j := 1) (by omega) (u := .pointer (some ⟨g, 0, none⟩)) rfl ?_ ?_ hp.2
      · exact ht.blk (HK3.out.below HB4.out HK3.out.lt) (HZ4.out.ne_ (HK3.out.below HB4.out HK3.out.lt) (by decide)).symm
      · have h5 := ht.blk (HG3.out.below HB4.out HG3.out.lt) HGr.out
        refine CtIs.new (A := A1) (d := d1) (B := A2) (e := d2) ?_ ⟨?_, ?_⟩ HLow.out.1 HLow.out.2
        · show Blk w5 g _ #[.int .i64 vw, .int .i64 nm, .int .i64 ((k : Int) + 1), .slice A1 b.length d1, .slice A2 v.length d2]
          rw [HN.out.1, HN.out.2.1]; exact h5
        · simp only [HN.out.1]; exact hrow (own_base (below_own HP1.out HB4.out (Nat.le_refl _)) (Nat.zero_le _)) (by decide)
        · simp only [HN.out.2.1]; exact hrow (own_base (below_own HP2.out HB4.out (Nat.le_refl _)) (Nat.zero_le _)) (by decide)
end
end Go.Proofs.Ytpdmflhbmimhgaa
