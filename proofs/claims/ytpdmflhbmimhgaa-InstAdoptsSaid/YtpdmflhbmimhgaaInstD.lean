/- Package inst: Used, Install, Chosen; an instance made since a world, its calls; the example. -/
import Derived.Test.YtpdmflhbmimhgaaInstC
import Derived.Test.YtpdmflhbmimhgaaReqEq
namespace Go.Proofs.Ytpdmflhbmimhgaa
open Go.RowKit
set_option linter.unusedSimpArgs false

def Px.has (p : Px) (r : Rq) : Bool := hasB (p.s.ch.getD []) r || (match p.co with | some c => hasB c.bt r | none => false)
def usedB (L : List Px) (r : Rq) : Bool := L.any fun p => p.has r
theorem usedB_step {L : List Px} {k : Nat} {p : Px} (h : L[k]? = some p) (r : Rq) : usedB (L.take (k + 1)) r = (usedB (L.take k) r || p.has r) := by
  unfold usedB
  rw [List.take_add_one, h, List.any_append]
  simp
theorem usedB_of {L : List Px} {k : Nat} {p : Px} (h : L[k]? = some p) {r : Rq} (hp : p.has r = true) : usedB L r = true := by
  unfold usedB
  rw [List.any_eq_true]
  exact ⟨p, List.mem_of_getElem? h, hp⟩
def rqCells (r : Rq) : Array Value := #[.int .i64 r.cl, .int .i64 r.tm, .int .i64 r.kd, .int .i64 r.ky, .int .i64 r.vl, .int .i64 r.sg]
theorem rq_cells6 {w : World} {g : Nat} {r : Rq} (h : Blk w g 41 (rqCells r)) : w.cell? ⟨g, 0, none⟩ = some (.int .i64 r.cl) ∧ w.cell? ⟨g, 1, none⟩ = some (.int .i64 r.tm) ∧ w.cell? ⟨g, 2, none⟩ = some (.int .i64 r.kd) ∧ w.cell? ⟨g, 3, none⟩ = some (.int .i64 r.ky) ∧ w.cell? ⟨g, 4, none⟩ = some (.int .i64 r.vl) ∧ w.cell? ⟨g, 5, none⟩ = some (.int .i64 r.sg) :=
  ⟨h.cell 0, h.cell 1, h.cell 2, h.cell 3, h.cell 4, h.cell 5⟩
theorem ct_cell3 {w : World} {g : Nat} {c : Ct} {A B : Option Addr} {d e : Nat} (h : CtIs w g c A d B e) : w.cell? ⟨g, 3, none⟩ = some (.slice A c.bt.length d) := h.blk.cell 3
theorem pl_cell2 {w : World} {g : Nat} {a b c : Value} (h : Blk w g 81 #[a, b, c]) : w.cell? ⟨g, 2, none⟩ = some c := h.cell 2
set_option maxRecDepth 100000 in
set_option maxHeartbeats 4000000 in
theorem iused_any {w : World} {ib : Nat} {x : Ix} {E : List Pe} (h : In w ib x E) (r : Rq) :
    Calls Try.prog 35 #[.pointer (some ⟨ib, 0, none⟩), .agg #[.int .i64 r.cl, .int .i64 r.tm, .int .i64 r.kd, .int .i64 r.ky, .int .i64 r.vl, .int .i64 r.sg]] w fun e w' => e = .returned (.bool (usedB x.L r)) ∧ Below w.heap.size w w' := by
  have HBx := Lib.hid (show Below w.heap.size w (w.alloc (.cells (rqCells r) 41)) from (Below.refl _ _).alloc (Nat.le_refl _) _)
  have HRb := Lib.hid (Blk.new w 41 (rqCells r))
  have HI := Lib.hid h
  have HR := Lib.hid (h.below HBx.out).range
  have HL := Lib.hid (show some 48 = some (peCells E).length by rw [peCells_len, h.ln])
  obtain ⟨ar, har⟩ : ∃ y, (peCells E).toArray = y := ⟨_, rfl⟩
  have HA := Lib.hid har
  have H16 := Lib.hid h.len
  clear h har
  go_enter Try.func35, Try.ntmps35
  go_wp2_with (refine wpList_load_mid rfl 82 _ rfl ib 4 rfl (peCells E) _ HR.out Try.underlying82 rfl (info_places.trans HL.out) ?_)
  rw [HA.out]
  go_loopw [13] (fun y wr => ∃ k : Nat, y = .int .i64 k ∧ k ≤ 16 ∧ Hid (usedB (x.L.take k) r = false) ∧ Hid (Below w.heap.size w wr) ∧ Hid (Blk wr w.heap.size 41 (rqCells r))) (fun y _ => 16 - (intOf y).toNat)
  case atStart => exact ⟨0, rfl, Nat.zero_le _, rfl, HBx, HRb⟩
  case round =>
    obtain ⟨k, rfl, hk, HU, HB, HQ⟩ := hrel
    by_cases hlt : k < 16
    · obtain ⟨e, he, hx⟩ := HI.out.at hlt
      have hix := fun (w : World) => run_index_pl he HI.out.ln w
      rw [HA.out] at hix
      have hlt' : (k : Int) < 16 := by omega
      have HB1 := Lib.hid (show Below wr.heap.size wr (wr.alloc (.cells #[.pointer (some ⟨e.sb, 0, none⟩), .pointer (adO e.pa), .pointer (adO e.ca)] 81)) from (Below.refl _ _).alloc (Nat.le_refl _) _)
      have HP1 := Lib.hid (Blk.new wr 81 #[.pointer (some ⟨e.sb, 0, none⟩), .pointer (adO e.pa), .pointer (adO e.ca)])
      have HB2 := Lib.hid (HB.out.trans (HB1.out.mono HB.out.size))
      have HI2 := Lib.hid (HI.out.below HB2.out)
      have HC := Lib.hid (schosen_any (HI2.out.all k e he).sl)
      have hlow : (e.x.s.ch.getD []).length ≤ 1000000 := by
        obtain ⟨cv, M1, M2, _, h2, _, _⟩ := (HI2.out.all k e he).sl.mem
        exact h2.low
      have HLow := Lib.hid hlow
      obtain ⟨n, hn⟩ : ∃ y, (e.x.s.ch.getD []).length = y := ⟨_, rfl⟩
      have HN := Lib.hid hn
      rw [hn] at HC
      obtain ⟨cc, hcc⟩ : ∃ y, e.x.s.ch.isSome = y := ⟨_, rfl⟩
      rw [hcc] at HC
      have HQ2 := Lib.hid (HQ.out.below HB1.out HQ.out.lt)
      obtain ⟨sb, hsb⟩ : ∃ y, e.sb = y := ⟨_, rfl⟩
      obtain ⟨pa, hpa⟩ : ∃ y, adO e.pa = y := ⟨_, rfl⟩
      rw [hsb, hpa] at HC hix HB1 HB2 HI2 HP1 HQ2
      have hst := usedB_step hx r
      rw [HU.out, Bool.false_or] at hst
      have HSt := Lib.hid hst
      have HOf := Lib.hid (fun hp => usedB_of hx (r := r) hp)
      obtain ⟨b1, hb1⟩ : ∃ y, hasB (e.x.s.ch.getD []) r = y := ⟨_, rfl⟩
      have HH1 := Lib.hid hb1
      cases b1 with
      | true =>
        have HFin := Lib.hid (show usedB x.L r = true from HOf.out (by unfold Px.has; rw [hb1]; rfl))
        obtain ⟨ca, hca⟩ : ∃ y, adO e.ca = y := ⟨_, rfl⟩
        rw [hca] at HC hix HB1 HB2 HI2 HP1 HQ2
        clear he hx hn hcc hsb hpa hlow hst hb1 HOf HSt hca
        go_wp2_with fail
        refine HC.out.mono ?_
        rintro e2 w2 ⟨u, rfl, ho, hb⟩
        obtain ⟨A5, d5, rfl, -, -⟩ := own_slice ho
        have HD2 := Lib.hid (show Below w2.heap.size w2 w2.drew from ⟨rfl, rfl, rfl, Nat.le_refl _, fun _ _ => rfl⟩)
        have HB3 := Lib.hid (HB2.out.trans (hb.mono HB2.out.size))
        have HB4 := Lib.hid (HB3.out.trans (HD2.out.mono HB3.out.size))
        have HQ4 := Lib.hid ((HQ2.out.below hb HQ2.out.lt).below HD2.out (Nat.lt_of_lt_of_le HQ2.out.lt hb.size))
        have HH := Lib.hid (rq_has (c := d5) (has_rows (below_own ho HD2.out (Nat.le_refl _))) HN.out (by rw [← HN.out]; exact HLow.out) r)
        rw [HH1.out] at HH
        have hq1 := rq_cells6 HQ4.out
        clear ho hb HC
        go_wp2_with fail
        refine wp_region_held_drew (S := fun w' => w'.cell? ⟨w.heap.size, 0, none⟩ = some (.int .i64 r.cl) ∧ w'.cell? ⟨w.heap.size, 1, none⟩ = some (.int .i64 r.tm) ∧ w'.cell? ⟨w.heap.size, 2, none⟩ = some (.int .i64 r.kd) ∧ w'.cell? ⟨w.heap.size, 3, none⟩ = some (.int .i64 r.ky) ∧ w'.cell? ⟨w.heap.size, 4, none⟩ = some (.int .i64 r.vl) ∧ w'.cell? ⟨w.heap.size, 5, none⟩ = some (.int .i64 r.sg)) (by kernel_rfl) (hq1) (fun hHeld => ?_)
        refine wpAnyH_take (i := 0) (v := ?_) rfl (by kernel_rfl) (by kernel_rfl) (by kernel_rfl) (fun _ _ _ h => h) (Or.inl ⟨by rfl, ?_⟩) (by assumption) ?_
        rotate_left
        · (intro w hSw; (try dsimp only at hSw); first | (go_simp; done) | (go_simp; with_reducible rfl))
        try simp only [Act.put, List.getElem_toArray, List.getElem_cons_zero, List.getElem_cons_succ, List.setIfInBounds_toArray, List.set_cons_zero, List.set_cons_succ]
        refine wpAnyH_take (i := 1) (v := ?_) rfl (by kernel_rfl) (by kernel_rfl) (by kernel_rfl) (fun _ _ _ h => h) (Or.inl ⟨by rfl, ?_⟩) (by assumption) ?_
        rotate_left
        · (intro w hSw; (try dsimp only at hSw); first | (go_simp; done) | (go_simp; with_reducible rfl))
        try simp only [Act.put, List.getElem_toArray, List.getElem_cons_zero, List.getElem_cons_succ, List.setIfInBounds_toArray, List.set_cons_zero, List.set_cons_succ]
        refine wpAnyH_ready (rs := [2]) (by kernel_rfl) (by simp) ?_
        refine AllReadyH.cons rfl (fun K hK => ?_) AllReadyH.nil
        go_simp
        go_at_call 64
        with_reducible refine HH.out.mono ?_
        rintro e w3 ⟨rfl, hb3⟩
        refine hK.out _ _ (rq_cells6 (HQ4.out.below hb3 HQ4.out.lt)) (fun hHeld => ?_)
        clear hK K
        try simp only [Act.put, List.getElem_toArray, List.getElem_cons_zero, List.getElem_cons_succ, List.setIfInBounds_toArray, List.set_cons_zero, List.set_cons_succ]
        refine wpAnyH_take (i := 3) (v := ?_) rfl (by kernel_rfl) (by kernel_rfl) (by kernel_rfl) (fun _ _ _ h => h) (Or.inl ⟨by rfl, ?_⟩) (by assumption) ?_
        rotate_left
        · (intro w hSw; (try dsimp only at hSw); first | (go_simp; done) | (go_simp; with_reducible rfl))
        try simp only [Act.put, List.getElem_toArray, List.getElem_cons_zero, List.getElem_cons_succ, List.setIfInBounds_toArray, List.set_cons_zero, List.set_cons_succ]
        refine wpAnyH_take (i := 4) (v := undef) rfl (by kernel_rfl) (by kernel_rfl) (by kernel_rfl) (fun _ _ _ h => h) (Or.inr ⟨by kernel_rfl, rfl⟩) (by assumption) ?_
        try simp only [Act.put, List.getElem_toArray, List.getElem_cons_zero, List.getElem_cons_succ, List.setIfInBounds_toArray, List.set_cons_zero, List.set_cons_succ]
        refine wpAnyH_take (i := 5) (v := undef) rfl (by kernel_rfl) (by kernel_rfl) (by kernel_rfl) (fun _ _ _ h => h) (Or.inr ⟨by kernel_rfl, rfl⟩) (by assumption) ?_
        try simp only [Act.put, List.getElem_toArray, List.getElem_cons_zero, List.getElem_cons_succ, List.setIfInBounds_toArray, List.set_cons_zero, List.set_cons_succ]
        refine wpAnyH_take (i := 6) (v := undef) rfl (by kernel_rfl) (by kernel_rfl) (by kernel_rfl) (fun _ _ _ h => h) (Or.inr ⟨by kernel_rfl, rfl⟩) (by assumption) ?_
        try simp only [Act.put, List.getElem_toArray, List.getElem_cons_zero, List.getElem_cons_succ, List.setIfInBounds_toArray, List.set_cons_zero, List.set_cons_succ]
        refine wpAnyH_take (i := 7) (v := undef) rfl (by kernel_rfl) (by kernel_rfl) (by kernel_rfl) (fun _ _ _ h => h) (Or.inr ⟨by kernel_rfl, rfl⟩) (by assumption) ?_
        try simp only [Act.put, List.getElem_toArray, List.getElem_cons_zero, List.getElem_cons_succ, List.setIfInBounds_toArray, List.set_cons_zero, List.set_cons_succ]
        refine wpAnyH_take (i := 8) (v := undef) rfl (by kernel_rfl) (by kernel_rfl) (by kernel_rfl) (fun _ _ _ h => h) (Or.inr ⟨by kernel_rfl, rfl⟩) (by assumption) ?_
        try simp only [Act.put, List.getElem_toArray, List.getElem_cons_zero, List.getElem_cons_succ, List.setIfInBounds_toArray, List.set_cons_zero, List.set_cons_succ]
        refine wpAnyH_take (i := 9) (v := undef) rfl (by kernel_rfl) (by kernel_rfl) (by kernel_rfl) (fun _ _ _ h => h) (Or.inr ⟨by kernel_rfl, rfl⟩) (by assumption) ?_
        try simp only [Act.put, List.getElem_toArray, List.getElem_cons_zero, List.getElem_cons_succ, List.setIfInBounds_toArray, List.set_cons_zero, List.set_cons_succ]
        refine wpAnyH_take (i := 10) (v := undef) rfl (by kernel_rfl) (by kernel_rfl) (by kernel_rfl) (fun _ _ _ h => h) (Or.inr ⟨by kernel_rfl, rfl⟩) (by assumption) ?_
        try simp only [Act.put, List.getElem_toArray, List.getElem_cons_zero, List.getElem_cons_succ, List.setIfInBounds_toArray, List.set_cons_zero, List.set_cons_succ]
        refine wpAnyH_take (i := 11) (v := undef) rfl (by kernel_rfl) (by kernel_rfl) (by kernel_rfl) (fun _ _ _ h => h) (Or.inr ⟨by kernel_rfl, rfl⟩) (by assumption) ?_
        try simp only [Act.put, List.getElem_toArray, List.getElem_cons_zero, List.getElem_cons_succ, List.setIfInBounds_toArray, List.set_cons_zero, List.set_cons_succ]
        refine wpAnyH_take (i := 12) (v := undef) rfl (by kernel_rfl) (by kernel_rfl) (by kernel_rfl) (fun _ _ _ h => h) (Or.inr ⟨by kernel_rfl, rfl⟩) (by assumption) ?_
        try simp only [Act.put, List.getElem_toArray, List.getElem_cons_zero, List.getElem_cons_succ, List.setIfInBounds_toArray, List.set_cons_zero, List.set_cons_succ]
        refine wpAnyH_take (i := 13) (v := undef) rfl (by kernel_rfl) (by kernel_rfl) (by kernel_rfl) (fun _ _ _ h => h) (Or.inr ⟨by kernel_rfl, rfl⟩) (by assumption) ?_
        try simp only [Act.put, List.getElem_toArray, List.getElem_cons_zero, List.getElem_cons_succ, List.setIfInBounds_toArray, List.set_cons_zero, List.set_cons_succ]
        refine wpAnyH_take (i := 14) (v := undef) rfl (by kernel_rfl) (by kernel_rfl) (by kernel_rfl) (fun _ _ _ h => h) (Or.inr ⟨by kernel_rfl, rfl⟩) (by assumption) ?_
        try simp only [Act.put, List.getElem_toArray, List.getElem_cons_zero, List.getElem_cons_succ, List.setIfInBounds_toArray, List.set_cons_zero, List.set_cons_succ]
        refine wpAnyH_take (i := 15) (v := undef) rfl (by kernel_rfl) (by kernel_rfl) (by kernel_rfl) (fun _ _ _ h => h) (Or.inr ⟨by kernel_rfl, rfl⟩) (by assumption) ?_
        try simp only [Act.put, List.getElem_toArray, List.getElem_cons_zero, List.getElem_cons_succ, List.setIfInBounds_toArray, List.set_cons_zero, List.set_cons_succ]
        refine wpAnyH_take (i := 16) (v := ?_) rfl (by kernel_rfl) (by kernel_rfl) (by kernel_rfl) (fun _ _ _ h => h) (Or.inl ⟨by rfl, ?_⟩) (by assumption) ?_
        rotate_left
        · (intro w hSw; (try dsimp only at hSw); first | (go_simp; done) | (go_simp; with_reducible rfl))
        try simp only [Act.put, List.getElem_toArray, List.getElem_cons_zero, List.getElem_cons_succ, List.setIfInBounds_toArray, List.set_cons_zero, List.set_cons_succ]
        refine wpAnyH_done (by kernel_rfl) ?_ _
        all_goals
          have HB5 := Lib.hid (HB4.out.trans (hb3.mono HB4.out.size))
          go_wp2_with fail
          go_ret
          exact ⟨by rw [HFin.out]; rfl, HB5.out⟩
      | false =>
        have hct := (HI2.out.all k e he).co
        cases hco : e.x.co with
        | none =>
          rw [hco] at hct
          have hca : e.ca = none := by
            cases hca : e.ca with
            | none => rfl
            | some g => rw [hca] at hct; cases hct
          have HFin := Lib.hid (show usedB (x.L.take (k + 1)) r = false from by rw [HSt.out]; unfold Px.has; rw [hb1, hco]; rfl)
          rw [hca] at HC hix HB1 HB2 HI2 HP1 HQ2
          change ∀ w, Sem.run _ _ _ = Result.ok (Value.agg #[_, _, Value.pointer none]) _ at hix
          change Hid (Blk _ _ _ #[_, _, Value.pointer none]) at HP1
          clear he hx hn hcc hsb hpa hlow hst hb1 HOf HSt hca hct hco
          go_wp2_with fail
          refine HC.out.mono ?_
          rintro e2 w2 ⟨u, rfl, ho, hb⟩
          obtain ⟨A5, d5, rfl, -, -⟩ := own_slice ho
          have HD2 := Lib.hid (show Below w2.heap.size w2 w2.drew from ⟨rfl, rfl, rfl, Nat.le_refl _, fun _ _ => rfl⟩)
          have HB3 := Lib.hid (HB2.out.trans (hb.mono HB2.out.size))
          have HB4 := Lib.hid (HB3.out.trans (HD2.out.mono HB3.out.size))
          have HQ4 := Lib.hid ((HQ2.out.below hb HQ2.out.lt).below HD2.out (Nat.lt_of_lt_of_le HQ2.out.lt hb.size))
          have HP4 := Lib.hid ((HP1.out.below hb HP1.out.lt).below HD2.out (Nat.lt_of_lt_of_le HP1.out.lt hb.size))
          have HH := Lib.hid (rq_has (c := d5) (has_rows (below_own ho HD2.out (Nat.le_refl _))) HN.out (by rw [← HN.out]; exact HLow.out) r)
          rw [HH1.out] at HH
          have hq1 := And.intro (pl_cell2 HP4.out) (rq_cells6 HQ4.out)
          clear ho hb HC
          go_wp2_with fail
          refine wp_region_held_drew (S := fun w' => w'.cell? ⟨wr.heap.size, 2, none⟩ = some (.pointer none) ∧ w'.cell? ⟨w.heap.size, 0, none⟩ = some (.int .i64 r.cl) ∧ w'.cell? ⟨w.heap.size, 1, none⟩ = some (.int .i64 r.tm) ∧ w'.cell? ⟨w.heap.size, 2, none⟩ = some (.int .i64 r.kd) ∧ w'.cell? ⟨w.heap.size, 3, none⟩ = some (.int .i64 r.ky) ∧ w'.cell? ⟨w.heap.size, 4, none⟩ = some (.int .i64 r.vl) ∧ w'.cell? ⟨w.heap.size, 5, none⟩ = some (.int .i64 r.sg)) (by kernel_rfl) (hq1) (fun hHeld => ?_)
          refine wpAnyH_take (i := 0) (v := ?_) rfl (by kernel_rfl) (by kernel_rfl) (by kernel_rfl) (fun _ _ _ h => h) (Or.inl ⟨by rfl, ?_⟩) (by assumption) ?_
          rotate_left
          · (intro w hSw; (try dsimp only at hSw); first | (go_simp; done) | (go_simp; with_reducible rfl))
          try simp only [Act.put, List.getElem_toArray, List.getElem_cons_zero, List.getElem_cons_succ, List.setIfInBounds_toArray, List.set_cons_zero, List.set_cons_succ]
          refine wpAnyH_take (i := 1) (v := ?_) rfl (by kernel_rfl) (by kernel_rfl) (by kernel_rfl) (fun _ _ _ h => h) (Or.inl ⟨by rfl, ?_⟩) (by assumption) ?_
          rotate_left
          · (intro w hSw; (try dsimp only at hSw); first | (go_simp; done) | (go_simp; with_reducible rfl))
          try simp only [Act.put, List.getElem_toArray, List.getElem_cons_zero, List.getElem_cons_succ, List.setIfInBounds_toArray, List.set_cons_zero, List.set_cons_succ]
          refine wpAnyH_ready (rs := [2]) (by kernel_rfl) (by simp) ?_
          refine AllReadyH.cons rfl (fun K hK => ?_) AllReadyH.nil
          go_simp
          go_at_call 64
          with_reducible refine HH.out.mono ?_
          rintro e w3 ⟨rfl, hb3⟩
          refine hK.out _ _ (And.intro (pl_cell2 (HP4.out.below hb3 HP4.out.lt)) (rq_cells6 (HQ4.out.below hb3 HQ4.out.lt))) (fun hHeld => ?_)
          clear hK K
          try simp only [Act.put, List.getElem_toArray, List.getElem_cons_zero, List.getElem_cons_succ, List.setIfInBounds_toArray, List.set_cons_zero, List.set_cons_succ]
          refine wpAnyH_take (i := 3) (v := ?_) rfl (by kernel_rfl) (by kernel_rfl) (by kernel_rfl) (fun _ _ _ h => h) (Or.inl ⟨by rfl, ?_⟩) (by assumption) ?_
          rotate_left
          · (intro w hSw; (try dsimp only at hSw); first | (go_simp; done) | (go_simp; with_reducible rfl))
          try simp only [Act.put, List.getElem_toArray, List.getElem_cons_zero, List.getElem_cons_succ, List.setIfInBounds_toArray, List.set_cons_zero, List.set_cons_succ]
          refine wpAnyH_take (i := 4) (v := ?_) rfl (by kernel_rfl) (by kernel_rfl) (by kernel_rfl) (fun _ _ _ h => h) (Or.inl ⟨by rfl, ?_⟩) (by assumption) ?_
          rotate_left
          · (intro w hSw; (try dsimp only at hSw); first | (go_simp; done) | (go_simp; with_reducible rfl))
          try simp only [Act.put, List.getElem_toArray, List.getElem_cons_zero, List.getElem_cons_succ, List.setIfInBounds_toArray, List.set_cons_zero, List.set_cons_succ]
          refine wpAnyH_take (i := 5) (v := ?_) rfl (by kernel_rfl) (by kernel_rfl) (by kernel_rfl) (fun _ _ _ h => h) (Or.inl ⟨by rfl, ?_⟩) (by assumption) ?_
          rotate_left
          · (intro w hSw; (try dsimp only at hSw); first | (go_simp; done) | (go_simp; with_reducible rfl))
          try simp only [Act.put, List.getElem_toArray, List.getElem_cons_zero, List.getElem_cons_succ, List.setIfInBounds_toArray, List.set_cons_zero, List.set_cons_succ]
          refine wpAnyH_take (i := 6) (v := ?_) rfl (by kernel_rfl) (by kernel_rfl) (by kernel_rfl) (fun _ _ _ h => h) (Or.inl ⟨by rfl, ?_⟩) (by assumption) ?_
          rotate_left
          · (intro w hSw; (try dsimp only at hSw); first | (go_simp; done) | (go_simp; with_reducible rfl))
          try simp only [Act.put, List.getElem_toArray, List.getElem_cons_zero, List.getElem_cons_succ, List.setIfInBounds_toArray, List.set_cons_zero, List.set_cons_succ]
          refine wpAnyH_take (i := 7) (v := ?_) rfl (by kernel_rfl) (by kernel_rfl) (by kernel_rfl) (fun _ _ _ h => h) (Or.inl ⟨by rfl, ?_⟩) (by assumption) ?_
          rotate_left
          · (intro w hSw; (try dsimp only at hSw); first | (go_simp; done) | (go_simp; with_reducible rfl))
          try simp only [Act.put, List.getElem_toArray, List.getElem_cons_zero, List.getElem_cons_succ, List.setIfInBounds_toArray, List.set_cons_zero, List.set_cons_succ]
          refine wpAnyH_take (i := 8) (v := undef) rfl (by kernel_rfl) (by kernel_rfl) (by kernel_rfl) (fun _ _ _ h => h) (Or.inr ⟨by kernel_rfl, rfl⟩) (by assumption) ?_
          try simp only [Act.put, List.getElem_toArray, List.getElem_cons_zero, List.getElem_cons_succ, List.setIfInBounds_toArray, List.set_cons_zero, List.set_cons_succ]
          refine wpAnyH_take (i := 9) (v := undef) rfl (by kernel_rfl) (by kernel_rfl) (by kernel_rfl) (fun _ _ _ h => h) (Or.inr ⟨by kernel_rfl, rfl⟩) (by assumption) ?_
          try simp only [Act.put, List.getElem_toArray, List.getElem_cons_zero, List.getElem_cons_succ, List.setIfInBounds_toArray, List.set_cons_zero, List.set_cons_succ]
          refine wpAnyH_take (i := 10) (v := undef) rfl (by kernel_rfl) (by kernel_rfl) (by kernel_rfl) (fun _ _ _ h => h) (Or.inr ⟨by kernel_rfl, rfl⟩) (by assumption) ?_
          try simp only [Act.put, List.getElem_toArray, List.getElem_cons_zero, List.getElem_cons_succ, List.setIfInBounds_toArray, List.set_cons_zero, List.set_cons_succ]
          refine wpAnyH_take (i := 11) (v := undef) rfl (by kernel_rfl) (by kernel_rfl) (by kernel_rfl) (fun _ _ _ h => h) (Or.inr ⟨by kernel_rfl, rfl⟩) (by assumption) ?_
          try simp only [Act.put, List.getElem_toArray, List.getElem_cons_zero, List.getElem_cons_succ, List.setIfInBounds_toArray, List.set_cons_zero, List.set_cons_succ]
          refine wpAnyH_take (i := 12) (v := undef) rfl (by kernel_rfl) (by kernel_rfl) (by kernel_rfl) (fun _ _ _ h => h) (Or.inr ⟨by kernel_rfl, rfl⟩) (by assumption) ?_
          try simp only [Act.put, List.getElem_toArray, List.getElem_cons_zero, List.getElem_cons_succ, List.setIfInBounds_toArray, List.set_cons_zero, List.set_cons_succ]
          refine wpAnyH_take (i := 13) (v := undef) rfl (by kernel_rfl) (by kernel_rfl) (by kernel_rfl) (fun _ _ _ h => h) (Or.inr ⟨by kernel_rfl, rfl⟩) (by assumption) ?_
          try simp only [Act.put, List.getElem_toArray, List.getElem_cons_zero, List.getElem_cons_succ, List.setIfInBounds_toArray, List.set_cons_zero, List.set_cons_succ]
          refine wpAnyH_take (i := 14) (v := undef) rfl (by kernel_rfl) (by kernel_rfl) (by kernel_rfl) (fun _ _ _ h => h) (Or.inr ⟨by kernel_rfl, rfl⟩) (by assumption) ?_
          try simp only [Act.put, List.getElem_toArray, List.getElem_cons_zero, List.getElem_cons_succ, List.setIfInBounds_toArray, List.set_cons_zero, List.set_cons_succ]
          refine wpAnyH_take (i := 15) (v := ?_) rfl (by kernel_rfl) (by kernel_rfl) (by kernel_rfl) (fun _ _ _ h => h) (Or.inl ⟨by rfl, ?_⟩) (by assumption) ?_
          rotate_left
          · (intro w hSw; (try dsimp only at hSw); first | (go_simp; done) | (go_simp; with_reducible rfl))
          try simp only [Act.put, List.getElem_toArray, List.getElem_cons_zero, List.getElem_cons_succ, List.setIfInBounds_toArray, List.set_cons_zero, List.set_cons_succ]
          refine wpAnyH_take (i := 16) (v := ?_) rfl (by kernel_rfl) (by kernel_rfl) (by kernel_rfl) (fun _ _ _ h => h) (Or.inl ⟨by rfl, ?_⟩) (by assumption) ?_
          rotate_left
          · (intro w hSw; (try dsimp only at hSw); first | (go_simp; done) | (go_simp; with_reducible rfl))
          try simp only [Act.put, List.getElem_toArray, List.getElem_cons_zero, List.getElem_cons_succ, List.setIfInBounds_toArray, List.set_cons_zero, List.set_cons_succ]
          refine wpAnyH_done (by kernel_rfl) ?_ _
          all_goals
            have HB5 := Lib.hid (HB4.out.trans (hb3.mono HB4.out.size))
            have HQ5 := Lib.hid (HQ4.out.below hb3 HQ4.out.lt)
            go_wp2_with fail
            go_roundw
            case rel => exact ⟨k + 1, by go_num, by omega, HFin, HB5, HQ5⟩
            case measure => simp [intOf]; omega
        | some c =>
          rw [hco] at hct
          obtain ⟨g, A0, d0, B0, d1, hca, hct⟩ := hct.some
          have HCt := Lib.hid hct
          obtain ⟨n1, hn1⟩ : ∃ y, c.bt.length = y := ⟨_, rfl⟩
          have HN1 := Lib.hid hn1
          obtain ⟨b2, hb2⟩ : ∃ y, hasB c.bt r = y := ⟨_, rfl⟩
          have HH2 := Lib.hid hb2
          rw [hca] at HC hix HB1 HB2 HI2 HP1 HQ2 HCt
          change ∀ w, Sem.run _ _ _ = Result.ok (Value.agg #[_, _, Value.pointer (some ⟨g, 0, none⟩)]) _ at hix
          change Hid (Blk _ _ _ #[_, _, Value.pointer (some ⟨g, 0, none⟩)]) at HP1
          cases b2 with
          | true =>
            have HFin := Lib.hid (show usedB x.L r = true from HOf.out (by unfold Px.has; rw [hb1, hco]; exact hb2))
            clear he hx hn hcc hsb hpa hlow hst hb1 HOf HSt hca hct hco hb2
            go_wp2_with fail
            refine HC.out.mono ?_
            rintro e2 w2 ⟨u, rfl, ho, hb⟩
            obtain ⟨A5, d5, rfl, -, -⟩ := own_slice ho
            have HD2 := Lib.hid (show Below w2.heap.size w2 w2.drew from ⟨rfl, rfl, rfl, Nat.le_refl _, fun _ _ => rfl⟩)
            have HB3 := Lib.hid (HB2.out.trans (hb.mono HB2.out.size))
            have HB4 := Lib.hid (HB3.out.trans (HD2.out.mono HB3.out.size))
            have HQ4 := Lib.hid ((HQ2.out.below hb HQ2.out.lt).below HD2.out (Nat.lt_of_lt_of_le HQ2.out.lt hb.size))
            have HP4 := Lib.hid ((HP1.out.below hb HP1.out.lt).below HD2.out (Nat.lt_of_lt_of_le HP1.out.lt hb.size))
            have HT4 := Lib.hid ((HCt.out.kept (Turn.of_below (Z := fun _ => False) hb) (Far.none _)).kept (Turn.of_below (Z := fun _ => False) HD2.out) (Far.none _))
            have HK4 := Lib.hid (ct_cell3 HT4.out)
            rw [HN1.out] at HK4
            have HH := Lib.hid (rq_has (c := d5) (has_rows (below_own ho HD2.out (Nat.le_refl _))) HN.out (by rw [← HN.out]; exact HLow.out) r)
            rw [HH1.out] at HH
            have HHb := Lib.hid (fun (w3 : World) (hb3 : Below w2.drew.heap.size w2.drew w3) => rq_has (c := d0) (has_rows (HT4.out.kept (Turn.of_below (Z := fun _ => False) hb3) (Far.none _)).bt) HN1.out (by rw [← HN1.out]; exact HT4.out.lb) r)
            rw [HH2.out] at HHb
            have HKb := Lib.hid (fun (w3 : World) (hb3 : Below w2.drew.heap.size w2.drew w3) => show w3.cell? ⟨g, 3, none⟩ = some (.slice A0 n1 d0) from by
              have := ct_cell3 (HT4.out.kept (Turn.of_below (Z := fun _ => False) hb3) (Far.none _))
              rw [HN1.out] at this
              exact this)
            have hq1 := And.intro HK4.out (And.intro (pl_cell2 HP4.out) (rq_cells6 HQ4.out))
            clear ho hb HC
            go_wp2_with fail
            refine wp_region_held_drew (S := fun w' => w'.cell? ⟨g, 3, none⟩ = some (.slice A0 n1 d0) ∧ w'.cell? ⟨wr.heap.size, 2, none⟩ = some (.pointer (some ⟨g, 0, none⟩)) ∧ w'.cell? ⟨w.heap.size, 0, none⟩ = some (.int .i64 r.cl) ∧ w'.cell? ⟨w.heap.size, 1, none⟩ = some (.int .i64 r.tm) ∧ w'.cell? ⟨w.heap.size, 2, none⟩ = some (.int .i64 r.kd) ∧ w'.cell? ⟨w.heap.size, 3, none⟩ = some (.int .i64 r.ky) ∧ w'.cell? ⟨w.heap.size, 4, none⟩ = some (.int .i64 r.vl) ∧ w'.cell? ⟨w.heap.size, 5, none⟩ = some (.int .i64 r.sg)) (by kernel_rfl) (hq1) (fun hHeld => ?_)
            refine wpAnyH_take (i := 0) (v := ?_) rfl (by kernel_rfl) (by kernel_rfl) (by kernel_rfl) (fun _ _ _ h => h) (Or.inl ⟨by rfl, ?_⟩) (by assumption) ?_
            rotate_left
            · (intro w hSw; (try dsimp only at hSw); first | (go_simp; done) | (go_simp; with_reducible rfl))
            try simp only [Act.put, List.getElem_toArray, List.getElem_cons_zero, List.getElem_cons_succ, List.setIfInBounds_toArray, List.set_cons_zero, List.set_cons_succ]
            refine wpAnyH_take (i := 1) (v := ?_) rfl (by kernel_rfl) (by kernel_rfl) (by kernel_rfl) (fun _ _ _ h => h) (Or.inl ⟨by rfl, ?_⟩) (by assumption) ?_
            rotate_left
            · (intro w hSw; (try dsimp only at hSw); first | (go_simp; done) | (go_simp; with_reducible rfl))
            try simp only [Act.put, List.getElem_toArray, List.getElem_cons_zero, List.getElem_cons_succ, List.setIfInBounds_toArray, List.set_cons_zero, List.set_cons_succ]
            refine wpAnyH_ready (rs := [2]) (by kernel_rfl) (by simp) ?_
            refine AllReadyH.cons rfl (fun K hK => ?_) AllReadyH.nil
            go_simp
            go_at_call 64
            with_reducible refine HH.out.mono ?_
            rintro e w3 ⟨rfl, hb3⟩
            refine hK.out _ _ (And.intro (HKb.out _ hb3) (And.intro (pl_cell2 (HP4.out.below hb3 HP4.out.lt)) (rq_cells6 (HQ4.out.below hb3 HQ4.out.lt)))) (fun hHeld => ?_)
            clear hK K
            try simp only [Act.put, List.getElem_toArray, List.getElem_cons_zero, List.getElem_cons_succ, List.setIfInBounds_toArray, List.set_cons_zero, List.set_cons_succ]
            refine wpAnyH_take (i := 3) (v := ?_) rfl (by kernel_rfl) (by kernel_rfl) (by kernel_rfl) (fun _ _ _ h => h) (Or.inl ⟨by rfl, ?_⟩) (by assumption) ?_
            rotate_left
            · (intro w hSw; (try dsimp only at hSw); first | (go_simp; done) | (go_simp; with_reducible rfl))
            try simp only [Act.put, List.getElem_toArray, List.getElem_cons_zero, List.getElem_cons_succ, List.setIfInBounds_toArray, List.set_cons_zero, List.set_cons_succ]
            refine wpAnyH_take (i := 4) (v := ?_) rfl (by kernel_rfl) (by kernel_rfl) (by kernel_rfl) (fun _ _ _ h => h) (Or.inl ⟨by rfl, ?_⟩) (by assumption) ?_
            rotate_left
            · (intro w hSw; (try dsimp only at hSw); first | (go_simp; done) | (go_simp; with_reducible rfl))
            try simp only [Act.put, List.getElem_toArray, List.getElem_cons_zero, List.getElem_cons_succ, List.setIfInBounds_toArray, List.set_cons_zero, List.set_cons_succ]
            refine wpAnyH_take (i := 5) (v := ?_) rfl (by kernel_rfl) (by kernel_rfl) (by kernel_rfl) (fun _ _ _ h => h) (Or.inl ⟨by rfl, ?_⟩) (by assumption) ?_
            rotate_left
            · (intro w hSw; (try dsimp only at hSw); first | (go_simp; done) | (go_simp; with_reducible rfl))
            try simp only [Act.put, List.getElem_toArray, List.getElem_cons_zero, List.getElem_cons_succ, List.setIfInBounds_toArray, List.set_cons_zero, List.set_cons_succ]
            refine wpAnyH_take (i := 6) (v := ?_) rfl (by kernel_rfl) (by kernel_rfl) (by kernel_rfl) (fun _ _ _ h => h) (Or.inl ⟨by rfl, ?_⟩) (by assumption) ?_
            rotate_left
            · (intro w hSw; (try dsimp only at hSw); first | (go_simp; done) | (go_simp; with_reducible rfl))
            try simp only [Act.put, List.getElem_toArray, List.getElem_cons_zero, List.getElem_cons_succ, List.setIfInBounds_toArray, List.set_cons_zero, List.set_cons_succ]
            refine wpAnyH_take (i := 7) (v := ?_) rfl (by kernel_rfl) (by kernel_rfl) (by kernel_rfl) (fun _ _ _ h => h) (Or.inl ⟨by rfl, ?_⟩) (by assumption) ?_
            rotate_left
            · (intro w hSw; (try dsimp only at hSw); first | (go_simp; done) | (go_simp; with_reducible rfl))
            try simp only [Act.put, List.getElem_toArray, List.getElem_cons_zero, List.getElem_cons_succ, List.setIfInBounds_toArray, List.set_cons_zero, List.set_cons_succ]
            refine wpAnyH_take (i := 8) (v := ?_) rfl (by kernel_rfl) (by kernel_rfl) (by kernel_rfl) (fun _ _ _ h => h) (Or.inl ⟨by rfl, ?_⟩) (by assumption) ?_
            rotate_left
            · (intro w hSw; (try dsimp only at hSw); first | (go_simp; done) | (go_simp; with_reducible rfl))
            try simp only [Act.put, List.getElem_toArray, List.getElem_cons_zero, List.getElem_cons_succ, List.setIfInBounds_toArray, List.set_cons_zero, List.set_cons_succ]
            refine wpAnyH_take (i := 9) (v := ?_) rfl (by kernel_rfl) (by kernel_rfl) (by kernel_rfl) (fun _ _ _ h => h) (Or.inl ⟨by rfl, ?_⟩) (by assumption) ?_
            rotate_left
            · (intro w hSw; (try dsimp only at hSw); first | (go_simp; done) | (go_simp; with_reducible rfl))
            try simp only [Act.put, List.getElem_toArray, List.getElem_cons_zero, List.getElem_cons_succ, List.setIfInBounds_toArray, List.set_cons_zero, List.set_cons_succ]
            refine wpAnyH_take (i := 10) (v := ?_) rfl (by kernel_rfl) (by kernel_rfl) (by kernel_rfl) (fun _ _ _ h => h) (Or.inl ⟨by rfl, ?_⟩) (by assumption) ?_
            rotate_left
            · (intro w hSw; (try dsimp only at hSw); first | (go_simp; done) | (go_simp; with_reducible rfl))
            try simp only [Act.put, List.getElem_toArray, List.getElem_cons_zero, List.getElem_cons_succ, List.setIfInBounds_toArray, List.set_cons_zero, List.set_cons_succ]
            refine wpAnyH_take (i := 11) (v := ?_) rfl (by kernel_rfl) (by kernel_rfl) (by kernel_rfl) (fun _ _ _ h => h) (Or.inl ⟨by rfl, ?_⟩) (by assumption) ?_
            rotate_left
            · (intro w hSw; (try dsimp only at hSw); first | (go_simp; done) | (go_simp; with_reducible rfl))
            try simp only [Act.put, List.getElem_toArray, List.getElem_cons_zero, List.getElem_cons_succ, List.setIfInBounds_toArray, List.set_cons_zero, List.set_cons_succ]
            refine wpAnyH_take (i := 12) (v := ?_) rfl (by kernel_rfl) (by kernel_rfl) (by kernel_rfl) (fun _ _ _ h => h) (Or.inl ⟨by rfl, ?_⟩) (by assumption) ?_
            rotate_left
            · (intro w hSw; (try dsimp only at hSw); first | (go_simp; done) | (go_simp; with_reducible rfl))
            try simp only [Act.put, List.getElem_toArray, List.getElem_cons_zero, List.getElem_cons_succ, List.setIfInBounds_toArray, List.set_cons_zero, List.set_cons_succ]
            refine wpAnyH_take (i := 13) (v := ?_) rfl (by kernel_rfl) (by kernel_rfl) (by kernel_rfl) (fun _ _ _ h => h) (Or.inl ⟨by rfl, ?_⟩) (by assumption) ?_
            rotate_left
            · (intro w hSw; (try dsimp only at hSw); first | (go_simp; done) | (go_simp; with_reducible rfl))
            try simp only [Act.put, List.getElem_toArray, List.getElem_cons_zero, List.getElem_cons_succ, List.setIfInBounds_toArray, List.set_cons_zero, List.set_cons_succ]
            refine wpAnyH_ready (rs := [14]) (by kernel_rfl) (by simp) ?_
            refine AllReadyH.cons rfl (fun K hK => ?_) AllReadyH.nil
            go_simp
            go_at_call 64
            with_reducible refine (HHb.out _ hb3).mono ?_
            rintro e w4 ⟨rfl, hb4⟩
            have hb5 := hb3.trans (hb4.mono hb3.size)
            refine hK.out _ _ (And.intro (HKb.out _ hb5) (And.intro (pl_cell2 (HP4.out.below hb5 HP4.out.lt)) (rq_cells6 (HQ4.out.below hb5 HQ4.out.lt)))) (fun hHeld => ?_)
            clear hK K
            try simp only [Act.put, List.getElem_toArray, List.getElem_cons_zero, List.getElem_cons_succ, List.setIfInBounds_toArray, List.set_cons_zero, List.set_cons_succ]
            refine wpAnyH_take (i := 15) (v := ?_) rfl (by kernel_rfl) (by kernel_rfl) (by kernel_rfl) (fun _ _ _ h => h) (Or.inl ⟨by rfl, ?_⟩) (by assumption) ?_
            rotate_left
            · (intro w hSw; (try dsimp only at hSw); first | (go_simp; done) | (go_simp; with_reducible rfl))
            try simp only [Act.put, List.getElem_toArray, List.getElem_cons_zero, List.getElem_cons_succ, List.setIfInBounds_toArray, List.set_cons_zero, List.set_cons_succ]
            refine wpAnyH_take (i := 16) (v := ?_) rfl (by kernel_rfl) (by kernel_rfl) (by kernel_rfl) (fun _ _ _ h => h) (Or.inl ⟨by rfl, ?_⟩) (by assumption) ?_
            rotate_left
            · (intro w hSw; (try dsimp only at hSw); first | (go_simp; done) | (go_simp; with_reducible rfl))
            try simp only [Act.put, List.getElem_toArray, List.getElem_cons_zero, List.getElem_cons_succ, List.setIfInBounds_toArray, List.set_cons_zero, List.set_cons_succ]
            refine wpAnyH_done (by kernel_rfl) ?_ _
            have HB6 := Lib.hid (HB4.out.trans (hb5.mono HB4.out.size))
            have HQ6 := Lib.hid (HQ4.out.below hb5 HQ4.out.lt)
            go_wp2_with fail
            go_ret
            exact ⟨by rw [HFin.out]; rfl, HB6.out⟩
          | false =>
            have HFin := Lib.hid (show usedB (x.L.take (k + 1)) r = false from by rw [HSt.out]; unfold Px.has; rw [hb1, hco]; exact hb2)
            clear he hx hn hcc hsb hpa hlow hst hb1 HOf HSt hca hct hco hb2
            go_wp2_with fail
            refine HC.out.mono ?_
            rintro e2 w2 ⟨u, rfl, ho, hb⟩
            obtain ⟨A5, d5, rfl, -, -⟩ := own_slice ho
            have HD2 := Lib.hid (show Below w2.heap.size w2 w2.drew from ⟨rfl, rfl, rfl, Nat.le_refl _, fun _ _ => rfl⟩)
            have HB3 := Lib.hid (HB2.out.trans (hb.mono HB2.out.size))
            have HB4 := Lib.hid (HB3.out.trans (HD2.out.mono HB3.out.size))
            have HQ4 := Lib.hid ((HQ2.out.below hb HQ2.out.lt).below HD2.out (Nat.lt_of_lt_of_le HQ2.out.lt hb.size))
            have HP4 := Lib.hid ((HP1.out.below hb HP1.out.lt).below HD2.out (Nat.lt_of_lt_of_le HP1.out.lt hb.size))
            have HT4 := Lib.hid ((HCt.out.kept (Turn.of_below (Z := fun _ => False) hb) (Far.none _)).kept (Turn.of_below (Z := fun _ => False) HD2.out) (Far.none _))
            have HK4 := Lib.hid (ct_cell3 HT4.out)
            rw [HN1.out] at HK4
            have HH := Lib.hid (rq_has (c := d5) (has_rows (below_own ho HD2.out (Nat.le_refl _))) HN.out (by rw [← HN.out]; exact HLow.out) r)
            rw [HH1.out] at HH
            have HHb := Lib.hid (fun (w3 : World) (hb3 : Below w2.drew.heap.size w2.drew w3) => rq_has (c := d0) (has_rows (HT4.out.kept (Turn.of_below (Z := fun _ => False) hb3) (Far.none _)).bt) HN1.out (by rw [← HN1.out]; exact HT4.out.lb) r)
            rw [HH2.out] at HHb
            have HKb := Lib.hid (fun (w3 : World) (hb3 : Below w2.drew.heap.size w2.drew w3) => show w3.cell? ⟨g, 3, none⟩ = some (.slice A0 n1 d0) from by
              have := ct_cell3 (HT4.out.kept (Turn.of_below (Z := fun _ => False) hb3) (Far.none _))
              rw [HN1.out] at this
              exact this)
            have hq1 := And.intro HK4.out (And.intro (pl_cell2 HP4.out) (rq_cells6 HQ4.out))
            clear ho hb HC
            go_wp2_with fail
            refine wp_region_held_drew (S := fun w' => w'.cell? ⟨g, 3, none⟩ = some (.slice A0 n1 d0) ∧ w'.cell? ⟨wr.heap.size, 2, none⟩ = some (.pointer (some ⟨g, 0, none⟩)) ∧ w'.cell? ⟨w.heap.size, 0, none⟩ = some (.int .i64 r.cl) ∧ w'.cell? ⟨w.heap.size, 1, none⟩ = some (.int .i64 r.tm) ∧ w'.cell? ⟨w.heap.size, 2, none⟩ = some (.int .i64 r.kd) ∧ w'.cell? ⟨w.heap.size, 3, none⟩ = some (.int .i64 r.ky) ∧ w'.cell? ⟨w.heap.size, 4, none⟩ = some (.int .i64 r.vl) ∧ w'.cell? ⟨w.heap.size, 5, none⟩ = some (.int .i64 r.sg)) (by kernel_rfl) (hq1) (fun hHeld => ?_)
            refine wpAnyH_take (i := 0) (v := ?_) rfl (by kernel_rfl) (by kernel_rfl) (by kernel_rfl) (fun _ _ _ h => h) (Or.inl ⟨by rfl, ?_⟩) (by assumption) ?_
            rotate_left
            · (intro w hSw; (try dsimp only at hSw); first | (go_simp; done) | (go_simp; with_reducible rfl))
            try simp only [Act.put, List.getElem_toArray, List.getElem_cons_zero, List.getElem_cons_succ, List.setIfInBounds_toArray, List.set_cons_zero, List.set_cons_succ]
            refine wpAnyH_take (i := 1) (v := ?_) rfl (by kernel_rfl) (by kernel_rfl) (by kernel_rfl) (fun _ _ _ h => h) (Or.inl ⟨by rfl, ?_⟩) (by assumption) ?_
            rotate_left
            · (intro w hSw; (try dsimp only at hSw); first | (go_simp; done) | (go_simp; with_reducible rfl))
            try simp only [Act.put, List.getElem_toArray, List.getElem_cons_zero, List.getElem_cons_succ, List.setIfInBounds_toArray, List.set_cons_zero, List.set_cons_succ]
            refine wpAnyH_ready (rs := [2]) (by kernel_rfl) (by simp) ?_
            refine AllReadyH.cons rfl (fun K hK => ?_) AllReadyH.nil
            go_simp
            go_at_call 64
            with_reducible refine HH.out.mono ?_
            rintro e w3 ⟨rfl, hb3⟩
            refine hK.out _ _ (And.intro (HKb.out _ hb3) (And.intro (pl_cell2 (HP4.out.below hb3 HP4.out.lt)) (rq_cells6 (HQ4.out.below hb3 HQ4.out.lt)))) (fun hHeld => ?_)
            clear hK K
            try simp only [Act.put, List.getElem_toArray, List.getElem_cons_zero, List.getElem_cons_succ, List.setIfInBounds_toArray, List.set_cons_zero, List.set_cons_succ]
            refine wpAnyH_take (i := 3) (v := ?_) rfl (by kernel_rfl) (by kernel_rfl) (by kernel_rfl) (fun _ _ _ h => h) (Or.inl ⟨by rfl, ?_⟩) (by assumption) ?_
            rotate_left
            · (intro w hSw; (try dsimp only at hSw); first | (go_simp; done) | (go_simp; with_reducible rfl))
            try simp only [Act.put, List.getElem_toArray, List.getElem_cons_zero, List.getElem_cons_succ, List.setIfInBounds_toArray, List.set_cons_zero, List.set_cons_succ]
            refine wpAnyH_take (i := 4) (v := ?_) rfl (by kernel_rfl) (by kernel_rfl) (by kernel_rfl) (fun _ _ _ h => h) (Or.inl ⟨by rfl, ?_⟩) (by assumption) ?_
            rotate_left
            · (intro w hSw; (try dsimp only at hSw); first | (go_simp; done) | (go_simp; with_reducible rfl))
            try simp only [Act.put, List.getElem_toArray, List.getElem_cons_zero, List.getElem_cons_succ, List.setIfInBounds_toArray, List.set_cons_zero, List.set_cons_succ]
            refine wpAnyH_take (i := 5) (v := ?_) rfl (by kernel_rfl) (by kernel_rfl) (by kernel_rfl) (fun _ _ _ h => h) (Or.inl ⟨by rfl, ?_⟩) (by assumption) ?_
            rotate_left
            · (intro w hSw; (try dsimp only at hSw); first | (go_simp; done) | (go_simp; with_reducible rfl))
            try simp only [Act.put, List.getElem_toArray, List.getElem_cons_zero, List.getElem_cons_succ, List.setIfInBounds_toArray, List.set_cons_zero, List.set_cons_succ]
            refine wpAnyH_take (i := 6) (v := ?_) rfl (by kernel_rfl) (by kernel_rfl) (by kernel_rfl) (fun _ _ _ h => h) (Or.inl ⟨by rfl, ?_⟩) (by assumption) ?_
            rotate_left
            · (intro w hSw; (try dsimp only at hSw); first | (go_simp; done) | (go_simp; with_reducible rfl))
            try simp only [Act.put, List.getElem_toArray, List.getElem_cons_zero, List.getElem_cons_succ, List.setIfInBounds_toArray, List.set_cons_zero, List.set_cons_succ]
            refine wpAnyH_take (i := 7) (v := ?_) rfl (by kernel_rfl) (by kernel_rfl) (by kernel_rfl) (fun _ _ _ h => h) (Or.inl ⟨by rfl, ?_⟩) (by assumption) ?_
            rotate_left
            · (intro w hSw; (try dsimp only at hSw); first | (go_simp; done) | (go_simp; with_reducible rfl))
            try simp only [Act.put, List.getElem_toArray, List.getElem_cons_zero, List.getElem_cons_succ, List.setIfInBounds_toArray, List.set_cons_zero, List.set_cons_succ]
            refine wpAnyH_take (i := 8) (v := ?_) rfl (by kernel_rfl) (by kernel_rfl) (by kernel_rfl) (fun _ _ _ h => h) (Or.inl ⟨by rfl, ?_⟩) (by assumption) ?_
            rotate_left
            · (intro w hSw; (try dsimp only at hSw); first | (go_simp; done) | (go_simp; with_reducible rfl))
            try simp only [Act.put, List.getElem_toArray, List.getElem_cons_zero, List.getElem_cons_succ, List.setIfInBounds_toArray, List.set_cons_zero, List.set_cons_succ]
            refine wpAnyH_take (i := 9) (v := ?_) rfl (by kernel_rfl) (by kernel_rfl) (by kernel_rfl) (fun _ _ _ h => h) (Or.inl ⟨by rfl, ?_⟩) (by assumption) ?_
            rotate_left
            · (intro w hSw; (try dsimp only at hSw); first | (go_simp; done) | (go_simp; with_reducible rfl))
            try simp only [Act.put, List.getElem_toArray, List.getElem_cons_zero, List.getElem_cons_succ, List.setIfInBounds_toArray, List.set_cons_zero, List.set_cons_succ]
            refine wpAnyH_take (i := 10) (v := ?_) rfl (by kernel_rfl) (by kernel_rfl) (by kernel_rfl) (fun _ _ _ h => h) (Or.inl ⟨by rfl, ?_⟩) (by assumption) ?_
            rotate_left
            · (intro w hSw; (try dsimp only at hSw); first | (go_simp; done) | (go_simp; with_reducible rfl))
            try simp only [Act.put, List.getElem_toArray, List.getElem_cons_zero, List.getElem_cons_succ, List.setIfInBounds_toArray, List.set_cons_zero, List.set_cons_succ]
            refine wpAnyH_take (i := 11) (v := ?_) rfl (by kernel_rfl) (by kernel_rfl) (by kernel_rfl) (fun _ _ _ h => h) (Or.inl ⟨by rfl, ?_⟩) (by assumption) ?_
            rotate_left
            · (intro w hSw; (try dsimp only at hSw); first | (go_simp; done) | (go_simp; with_reducible rfl))
            try simp only [Act.put, List.getElem_toArray, List.getElem_cons_zero, List.getElem_cons_succ, List.setIfInBounds_toArray, List.set_cons_zero, List.set_cons_succ]
            refine wpAnyH_take (i := 12) (v := ?_) rfl (by kernel_rfl) (by kernel_rfl) (by kernel_rfl) (fun _ _ _ h => h) (Or.inl ⟨by rfl, ?_⟩) (by assumption) ?_
            rotate_left
            · (intro w hSw; (try dsimp only at hSw); first | (go_simp; done) | (go_simp; with_reducible rfl))
            try simp only [Act.put, List.getElem_toArray, List.getElem_cons_zero, List.getElem_cons_succ, List.setIfInBounds_toArray, List.set_cons_zero, List.set_cons_succ]
            refine wpAnyH_take (i := 13) (v := ?_) rfl (by kernel_rfl) (by kernel_rfl) (by kernel_rfl) (fun _ _ _ h => h) (Or.inl ⟨by rfl, ?_⟩) (by assumption) ?_
            rotate_left
            · (intro w hSw; (try dsimp only at hSw); first | (go_simp; done) | (go_simp; with_reducible rfl))
            try simp only [Act.put, List.getElem_toArray, List.getElem_cons_zero, List.getElem_cons_succ, List.setIfInBounds_toArray, List.set_cons_zero, List.set_cons_succ]
            refine wpAnyH_ready (rs := [14]) (by kernel_rfl) (by simp) ?_
            refine AllReadyH.cons rfl (fun K hK => ?_) AllReadyH.nil
            go_simp
            go_at_call 64
            with_reducible refine (HHb.out _ hb3).mono ?_
            rintro e w4 ⟨rfl, hb4⟩
            have hb5 := hb3.trans (hb4.mono hb3.size)
            refine hK.out _ _ (And.intro (HKb.out _ hb5) (And.intro (pl_cell2 (HP4.out.below hb5 HP4.out.lt)) (rq_cells6 (HQ4.out.below hb5 HQ4.out.lt)))) (fun hHeld => ?_)
            clear hK K
            try simp only [Act.put, List.getElem_toArray, List.getElem_cons_zero, List.getElem_cons_succ, List.setIfInBounds_toArray, List.set_cons_zero, List.set_cons_succ]
            refine wpAnyH_take (i := 15) (v := ?_) rfl (by kernel_rfl) (by kernel_rfl) (by kernel_rfl) (fun _ _ _ h => h) (Or.inl ⟨by rfl, ?_⟩) (by assumption) ?_
            rotate_left
            · (intro w hSw; (try dsimp only at hSw); first | (go_simp; done) | (go_simp; with_reducible rfl))
            try simp only [Act.put, List.getElem_toArray, List.getElem_cons_zero, List.getElem_cons_succ, List.setIfInBounds_toArray, List.set_cons_zero, List.set_cons_succ]
            refine wpAnyH_take (i := 16) (v := ?_) rfl (by kernel_rfl) (by kernel_rfl) (by kernel_rfl) (fun _ _ _ h => h) (Or.inl ⟨by rfl, ?_⟩) (by assumption) ?_
            rotate_left
            · (intro w hSw; (try dsimp only at hSw); first | (go_simp; done) | (go_simp; with_reducible rfl))
            try simp only [Act.put, List.getElem_toArray, List.getElem_cons_zero, List.getElem_cons_succ, List.setIfInBounds_toArray, List.set_cons_zero, List.set_cons_succ]
            refine wpAnyH_done (by kernel_rfl) ?_ _
            have HB6 := Lib.hid (HB4.out.trans (hb5.mono HB4.out.size))
            have HQ6 := Lib.hid (HQ4.out.below hb5 HQ4.out.lt)
            go_wp2_with fail
            go_roundw
            case rel => exact ⟨k + 1, by go_num, by omega, HFin, HB6, HQ6⟩
            case measure => simp [intOf]; omega
    · obtain rfl : k = 16 := by omega
      have HFin := Lib.hid (show usedB x.L r = false from by
        have := HU.out
        rwa [List.take_of_length_le (by rw [H16.out]; exact Nat.le_refl _)] at this)
      go_wp2_with fail
      go_ret
      exact ⟨by rw [HFin.out]; rfl, HB.out⟩
end Go.Proofs.Ytpdmflhbmimhgaa
namespace Go.Proofs.Ytpdmflhbmimhgaa
open Go.RowKit
set_option linter.unusedSimpArgs false

/-- A batch as it lies. -/
structure Bs where
  b : List Rq
  A : Option Addr
  c : Nat
def Bs.cells (y : Bs) : List Value := [.slice y.A y.b.length y.c]
structure BsOk (w : World) (B : Nat) (y : Bs) : Prop where
  has : Has w B y.A (reqCells y.b)
  low : y.b.length ≤ 1000000
def Px.pre (p : Px) (b : List Rq) : Px := ⟨p.s.pre b, p.pr, p.co⟩
def insL (L : List Px) (bs : List Bs) : Nat → List Px
  | 0 => L
  | k + 1 => match L[k]?, bs[k]? with
    | some p, some y => (insL L bs k).set k (p.pre y.b)
    | _, _ => insL L bs k
theorem insL_len (L : List Px) (bs : List Bs) : ∀ k, (insL L bs k).length = L.length
  | 0 => rfl
  | k + 1 => by
    have := insL_len L bs k
    unfold insL
    split
    · rw [List.length_set]; exact this
    · exact this
theorem insL_at (L : List Px) (bs : List Bs) : ∀ {k j : Nat}, k ≤ j → (insL L bs k)[j]? = L[j]?
  | 0, _, _ => rfl
  | k + 1, j, h => by
    have := insL_at L bs (k := k) (j := j) (by omega)
    unfold insL
    split
    · rw [List.getElem?_set_ne (by omega)]; exact this
    · exact this
theorem insL_step {L : List Px} {bs : List Bs} {k : Nat} {p : Px} {y : Bs} (h1 : L[k]? = some p) (h2 : bs[k]? = some y) : insL L bs (k + 1) = (insL L bs k).set k (p.pre y.b) := by
  show (match L[k]?, bs[k]? with
    | some p, some y => (insL L bs k).set k (p.pre y.b)
    | _, _ => insL L bs k) = _
  rw [h1, h2]
def Ix.inst (x : Ix) (bs : List Bs) (k : Nat) : Ix := ⟨x.f, x.num, x.ah, x.vw, true, insL x.L bs k⟩
theorem iinstall_on {w : World} {ib : Nat} {x : Ix} {E : List Pe} (h : In w ib x E) (ho : x.on = true) (A : Option Addr) (n c : Nat) :
    Calls Try.prog 21 #[.pointer (some ⟨ib, 0, none⟩), .slice A n c] w fun e w' => e = .returned (.bool false) ∧ w = w' := by
  obtain ⟨-, -, -, c3⟩ := h.hd
  rw [ho] at c3
  clear h ho
  go_enter Try.func21, Try.ntmps21
  go_wp2_with fail
  go_ret
  exact ⟨rfl, rfl⟩
theorem iinstall_many {w : World} {ib : Nat} {x : Ix} {E : List Pe} (h : In w ib x E) (ho : x.on = false) (A : Option Addr) {n : Nat} (c : Nat) (hn : 16 < n) :
    Calls Try.prog 21 #[.pointer (some ⟨ib, 0, none⟩), .slice A n c] w fun e w' => e = .returned (.bool false) ∧ w = w' := by
  obtain ⟨-, -, -, c3⟩ := h.hd
  rw [ho] at c3
  have g1 : decide ((16 : Int) < (n : Int)) = true := decide_eq_true (by omega)
  clear h ho hn
  go_enter Try.func21, Try.ntmps21
  go_wp2_with fail
  go_ret
  exact ⟨rfl, rfl⟩
set_option maxRecDepth 100000 in
set_option maxHeartbeats 2000000 in
theorem iinstall_in {w : World} {ib : Nat} {x : Ix} {E : List Pe} (h : In w ib x E) (ho : x.on = false) {A : Option Addr} {n c B : Nat} {bs : List Bs} (hA : Has w B A (bs.flatMap Bs.cells)) (hn : bs.length = n) (h16 : n ≤ 16) (hok : ∀ y ∈ bs, BsOk w B y) (hfar : ∀ j, IZ ib E j → B ≤ j) :
    Calls Try.prog 21 #[.pointer (some ⟨ib, 0, none⟩), .slice A n c] w fun e w' => e = .returned (.bool true) ∧ IPost w ib E (x.inst bs n) w' := by
  obtain ⟨-, -, -, c3⟩ := h.hd
  have f3 := h.blk.frozen 3
  have ht : Turn (fun j => j = ib) w (w.setCell ⟨ib, 3, none⟩ (.bool true)) := (Turn.refl (fun j => j = ib) w).set_ ⟨ib, 3, none⟩ _ rfl
  have hb : Blk (w.setCell ⟨ib, 3, none⟩ (.bool true)) ib 84 (inCells (x.inst bs 0) E) := h.blk.set_ 3 _
  have hp := h.head (x' := x.inst bs 0) rfl h.num h.ah h.vw rfl ht hb
  have HP0 := Lib.hid hp
  have HLn := Lib.hid (And.intro h.ln h.len)
  have HN := Lib.hid hn
  have HOk := Lib.hid hok
  have HA := Lib.hid hA
  have HF := Lib.hid hfar
  rw [ho] at c3
  have g1 : decide ((16 : Int) < (n : Int)) = false := decide_eq_false (by omega)
  have hmn : (n : Int) ≤ 16 := by omega
  clear h ho hA hn hok hfar ht hb hp
  go_enter Try.func21, Try.ntmps21
  go_wp2_with fail
  go_loopw [21] (fun y wr => ∃ k : Nat, y = .int .i64 k ∧ k ≤ n ∧ Hid (IPost w ib E (x.inst bs k) wr)) (fun y _ => n - (intOf y).toNat)
  case atStart => exact ⟨0, rfl, Nat.zero_le _, HP0⟩
  case round =>
    obtain ⟨k, rfl, hk, HP⟩ := hrel
    by_cases hlt : k < n
    · have hkb : k < bs.length := by rw [HN.out]; exact hlt
      obtain ⟨E', hI, hZ, hT, hS⟩ := HP.out
      have hz : ∀ j, j < B → ¬ IZ ib E j := fun j hj hz => by have := HF.out j hz; omega
      obtain ⟨ad, hAe, had, hc⟩ := (has_zone HA.out hT hz).thing (f := Bs.cells) (s := 1) (fun _ => rfl) (by omega) hkb
      have d0 : wr.cell? (ad.add k) = some (.slice bs[k].A bs[k].b.length bs[k].c) := by
        have := hc 0 _ rfl
        rw [Nat.mul_one] at this
        exact this
      have hok1 := HOk.out _ (List.getElem_mem hkb)
      obtain ⟨y, hy⟩ : ∃ y, bs[k] = y := ⟨_, rfl⟩
      rw [hy] at d0 hok1
      have hyk : bs[k]? = some y := by rw [List.getElem?_eq_getElem hkb, hy]
      have hk16 : k < 16 := by omega
      obtain ⟨e, he, hx⟩ := hI.at hk16
      have c0 := hI.cell0 he
      have HV := Lib.hid (spre_any (c := y.c) (hI.all k e he).sl (has_zone hok1.has hT hz) rfl hok1.low)
      have HX := Lib.hid (fun (w2 : World) (hp : SlPost wr (fun _ => True) e.sb e.v1 e.v2 (x.inst bs k).f (e.x.s.pre y.b) w2) => show IPost w ib E (x.inst bs (k + 1)) w2 from by
        have hr := IPost.trans hZ hT hS (hI.slot he hp)
        have hxk : x.L[k]? = some e.x := by rw [← insL_at x.L bs (Nat.le_refl k)]; exact hx
        have : (x.inst bs k).put k ⟨e.x.s.pre y.b, e.x.pr, e.x.co⟩ = x.inst bs (k + 1) := by
          unfold Ix.put Ix.inst
          have := insL_step (bs := bs) hxk hyk
          simp only [this]
          rfl
        rw [this] at hr
        exact hr)
      obtain ⟨sb, hsb⟩ : ∃ z, e.sb = z := ⟨_, rfl⟩
      rw [hsb] at HV HX c0
      obtain ⟨b1, hb1⟩ : ∃ z, (!e.x.s.ch.isSome) = z := ⟨_, rfl⟩
      rw [hb1] at HV
      obtain ⟨ny, hny⟩ : ∃ z, y.b.length = z := ⟨_, rfl⟩
      rw [hny] at HV d0
      subst hAe
      have hlt' : (k : Int) < (n : Int) := by omega
      have hlt16 : (k : Int) < 16 := by omega
      clear hI hZ hT hS hz hc hok1 hy hyk he hx hsb hb1 hny had hkb
      go_wp2_with fail
      refine HV.out.mono ?_
      rintro e2 w2 ⟨rfl, hp⟩
      have HR := Lib.hid (HX.out w2 hp)
      clear hp HV HX c0 d0
      go_wp2_with fail
      go_roundw
      case rel => exact ⟨k + 1, by go_num, by omega, HR⟩
      case measure => simp [intOf]; omega
    · obtain rfl : k = n := by omega
      go_wp2_with fail
      go_ret
      exact ⟨rfl, HP.out⟩
theorem ichosen_out (w : World) (ib : Nat) {sq : Int} (ho : ¬ (1 ≤ sq ∧ sq ≤ 16)) :
    Calls Try.prog 60 #[.pointer (some ⟨ib, 0, none⟩), .int .i64 sq] w fun e w' => e = .returned (.tuple #[.slice none 0 0, .bool false]) ∧ w = w' := by
  have HO := Lib.hid (fun w => iat_out ib ho w)
  clear ho
  go_enter Try.func60, Try.ntmps60
  go_wp2_with fail
  refine (HO.out _).mono ?_
  rintro e w1 ⟨rfl, rfl⟩
  go_wp2_with fail
  go_ret2
  exact ⟨rfl, rfl⟩
theorem ichosen_in {w : World} {ib k : Nat} {x : Ix} {E : List Pe} {e : Pe} (h : In w ib x E) (hk : E[k]? = some e) :
    Calls Try.prog 60 #[.pointer (some ⟨ib, 0, none⟩), .int .i64 ((k : Int) + 1)] w fun e' w' => ∃ u, e' = .returned (.tuple #[u, .bool e.x.s.ch.isSome]) ∧ w'.ownsRow w.heap.size 41 6 u (e.x.s.ch.getD []).length (reqCells (e.x.s.ch.getD [])) ∧ Below w.heap.size w w' := by
  have HO := Lib.hid (fun w => iat_in ib (h.k16 hk) w)
  have c0 := h.cell0 hk
  have HC := Lib.hid (schosen_any (h.all k e hk).sl)
  obtain ⟨sb, hsb⟩ : ∃ z, e.sb = z := ⟨_, rfl⟩
  rw [hsb] at HC c0
  obtain ⟨n, hn⟩ : ∃ z, (e.x.s.ch.getD []).length = z := ⟨_, rfl⟩
  obtain ⟨cc, hcc⟩ : ∃ z, e.x.s.ch.isSome = z := ⟨_, rfl⟩
  rw [hn, hcc] at HC ⊢
  clear h hk hsb hn hcc
  go_enter Try.func60, Try.ntmps60
  go_wp2_with fail
  refine (HO.out _).mono ?_
  rintro e w1 ⟨rfl, rfl⟩
  go_wp2_with fail
  refine HC.out.mono ?_
  rintro e2 w2 ⟨u, rfl, ho, hb⟩
  have HOw := Lib.hid ho
  have HB := Lib.hid hb
  obtain ⟨A5, d5, rfl, -, -⟩ := own_slice ho
  clear ho hb c0
  go_wp2_with fail
  go_ret2
  exact ⟨_, rfl, HOw.out, HB.out⟩
end Go.Proofs.Ytpdmflhbmimhgaa
namespace Go.Proofs.Ytpdmflhbmimhgaa
open Go.RowKit
set_option linter.unusedSimpArgs false

/-- Only blocks of an instance's kinds may have changed. -/
def Kp (w w' : World) : Prop := ∃ Y : Nat → Prop, Turn Y w w' ∧ Far w Y
theorem Kp.blk {w w' : World} (h : Kp w w') {g : Nat} {t : TypeId} {cs : Array Value} (hb : Blk w g t cs) (h1 : t ≠ 84) (h2 : t ≠ 108) (h3 : t ≠ 113) : Blk w' g t cs := by
  obtain ⟨Y, ht, hf⟩ := h
  exact ht.blk hb (hf g t cs hb h1 h2 h3)
theorem Kp.own {w w' : World} (h : Kp w w') {b m n : Nat} {t : TypeId} {v : Value} {xs : List Value} (ho : w.ownsRow b t m v n xs) (h1 : t ≠ 84) (h2 : t ≠ 108) (h3 : t ≠ 113) : w'.ownsRow b t m v n xs := by
  obtain ⟨Y, ht, hf⟩ := h
  exact ht.own ho (hf.own ho h1 h2 h3)
theorem Kp.size {w w' : World} (h : Kp w w') : w.heap.size ≤ w'.heap.size := by
  obtain ⟨Y, ht, _⟩ := h
  exact ht.size
theorem Kp.of_below {w w' : World} (h : Below w.heap.size w w') : Kp w w' := ⟨fun _ => False, Turn.of_below h, Far.none w⟩
theorem Kp.ctRow {w w' : World} (h : Kp w w') {b : Nat} {v : Value} {l : List Ct} (hr : CtRow w b v l) : CtRow w' b v l := by
  obtain ⟨M, h1, h2, h3⟩ := hr
  exact ⟨M, h1, h.own h2 (by decide) (by decide) (by decide), fun y hy => ⟨h.own (h3 y hy).bt (by decide) (by decide) (by decide), h.own (h3 y hy).vs (by decide) (by decide) (by decide)⟩⟩
theorem Kp.ctNew {w w' : World} (h : Kp w w') {b : Nat} {c : Ct} {A B : Option Addr} {d e : Nat} (hn : CtNew w b c A d B e) : CtNew w' b c A d B e := ⟨h.own hn.bt (by decide) (by decide) (by decide), h.own hn.vs (by decide) (by decide) (by decide)⟩
/-- An instance that was made since w. -/
structure Ri (w : World) (ib : Nat) (x : Ix) (wr : World) : Prop where
  low : Below w.heap.size w wr
  ex : ∃ E : List Pe, In wr ib x E ∧ ∀ k, IZ ib E k → w.heap.size ≤ k
section
variable {w wr wz : World} {ib k : Nat} {x x' : Ix} {p : Px}
theorem Ri.below (h : Ri w ib x wr) (hb : Below wr.heap.size wr wz) : Ri w ib x wz := by
  obtain ⟨E, h1, h2⟩ := h.ex
  exact ⟨h.low.trans (hb.mono h.low.size), E, h1.below hb, h2⟩
theorem Ri.drewN (h : Ri w ib x wr) (m : Nat) : Ri w ib x (wr.drewN m) := h.below ⟨rfl, rfl, rfl, Nat.le_refl _, fun _ _ => rfl⟩
theorem Ri.lift (h : Ri w ib x wr) {f : FuncId} {args : Array Value} {R : Ending → Prop} (hc : ∀ E, In wr ib x E → (∀ j, IZ ib E j → w.heap.size ≤ j) → Calls Try.prog f args wr fun e w' => R e ∧ IPost wr ib E x' w') :
    Calls Try.prog f args wr fun e w' => R e ∧ Ri w ib x' w' ∧ Kp wr w' := by
  obtain ⟨E, h1, h2⟩ := h.ex
  refine (hc E h1 h2).mono ?_
  rintro e w' ⟨hr, E', a1, a2, a3, a4⟩
  refine ⟨hr, ⟨h.low.trans (a3.below h.low.size (fun j hj hz => by have := h2 j hz; omega)), E', a1, fun j hj => ?_⟩, IZ ib E, a3, h1.far⟩
  rcases a2 j hj with h3 | h3
  · exact h2 j h3
  · exact Nat.le_trans h.low.size h3
theorem In.pick {E : List Pe} (h : In wr ib x E) (hk : x.L[k]? = some p) : ∃ e, E[k]? = some e ∧ e.x = p := by
  rw [← h.is, List.getElem?_map] at hk
  cases he : E[k]? with
  | none => rw [he] at hk; cases hk
  | some e => rw [he] at hk; exact ⟨e, rfl, by simpa using hk⟩
theorem r_new {f num ah : Int} {n : Nat} (f1 : 1 ≤ f) (f4 : f ≤ 4) (n0 : 0 ≤ num) (nf : num ≤ f) (a1 : 1 ≤ ah) (a2 : ah ≤ 16) (hn : (n : Int) = 3 * f + 1) (w u : World) (hu : Below w.heap.size w u) :
    Calls Try.prog 12 #[.int .i64 f, .int .i64 num, .int .i64 ah] u fun e w' => ∃ ib, e = .returned (.tuple #[.pointer (some ⟨ib, 0, none⟩), .int .i64 0]) ∧ Ri w ib (Ix.new f num ah n) w' ∧ Below u.heap.size u w' :=
  (inew_any f1 f4 n0 nf a1 a2 hn u).mono fun _ _ ⟨ib, E, he, hI, hz, hb⟩ => ⟨ib, he, ⟨hu.trans (hb.mono hu.size), E, hI, fun j hj => Nat.le_trans hu.size (hz j hj)⟩, hb⟩
theorem r_vote (h : Ri w ib x wr) (hk : x.L[k]? = some p) (hon : x.on = true) (kd nd sg : Int) {A : Option Addr} {n c B : Nat} {b : List Rq} (hb : Has wr B A (reqCells b)) (hn : b.length = n) (hm : n ≤ 1000000) :
    Calls Try.prog 17 #[.pointer (some ⟨ib, 0, none⟩), .int .i64 kd, .int .i64 ((k : Int) + 1), .int .i64 nd, .int .i64 sg, .slice A n c] wr fun e w' => e = .returned (.bool (p.s.vote kd nd sg b).1) ∧ Ri w ib (x.put k ⟨(p.s.vote kd nd sg b).2, p.pr, p.co⟩) w' ∧ Kp wr w' :=
  h.lift fun E hI _ => by
    obtain ⟨e, he, rfl⟩ := hI.pick hk
    exact ivote_in hI he hon kd nd sg hb hn hm
theorem r_vote_no (h : Ri w ib x wr) {sq : Int} (ho : x.on = false ∨ ¬ (1 ≤ sq ∧ sq ≤ 16)) (kd nd sg : Int) (A : Option Addr) (n c : Nat) :
    Calls Try.prog 17 #[.pointer (some ⟨ib, 0, none⟩), .int .i64 kd, .int .i64 sq, .int .i64 nd, .int .i64 sg, .slice A n c] wr fun e w' => e = .returned (.bool false) ∧ wr = w' := by
  obtain ⟨E, hI, _⟩ := h.ex
  exact ivote_no hI ho kd nd sg A n c
theorem r_pre (h : Ri w ib x wr) (hk : x.L[k]? = some p) (hon : x.on = true) (hd : (k : Int) + 1 ≤ (doneL x.L : Int) + x.ah) {A : Option Addr} {n c B : Nat} {b : List Rq} (hb : Has wr B A (reqCells b)) (hn : b.length = n) (hm : n ≤ 1000000) :
    Calls Try.prog 15 #[.pointer (some ⟨ib, 0, none⟩), .int .i64 ((k : Int) + 1), .slice A n c] wr fun e w' => e = .returned (.bool (!p.s.ch.isSome)) ∧ Ri w ib (x.put k ⟨p.s.pre b, p.pr, p.co⟩) w' ∧ Kp wr w' :=
  h.lift fun E hI _ => by
    obtain ⟨e, he, rfl⟩ := hI.pick hk
    exact ipre_in hI he hon hd hb hn hm
theorem r_pre_no (h : Ri w ib x wr) {sq : Int} (ho : x.on = false ∨ ¬ (1 ≤ sq ∧ sq ≤ 16)) (A : Option Addr) (n c : Nat) :
    Calls Try.prog 15 #[.pointer (some ⟨ib, 0, none⟩), .int .i64 sq, .slice A n c] wr fun e w' => e = .returned (.bool false) ∧ Below wr.heap.size wr w' := by
  obtain ⟨E, hI, _⟩ := h.ex
  exact ipre_no hI ho A n c
theorem r_pre_far (h : Ri w ib x wr) (hk : k < 16) (hon : x.on = true) (hd : (doneL x.L : Int) + x.ah < (k : Int) + 1) (A : Option Addr) (n c : Nat) :
    Calls Try.prog 15 #[.pointer (some ⟨ib, 0, none⟩), .int .i64 ((k : Int) + 1), .slice A n c] wr fun e w' => e = .returned (.bool false) ∧ Below wr.heap.size wr w' := by
  obtain ⟨E, hI, _⟩ := h.ex
  exact ipre_far hI hk hon hd A n c
theorem r_done (h : Ri w ib x wr) : Calls Try.prog 14 #[.pointer (some ⟨ib, 0, none⟩)] wr fun e w' => e = .returned (.int .i64 (doneL x.L)) ∧ wr = w' := by
  obtain ⟨E, hI, _⟩ := h.ex
  exact idone_any hI
theorem r_view (h : Ri w ib x wr) : Calls Try.prog 30 #[.pointer (some ⟨ib, 0, none⟩)] wr fun e w' => e = .returned (.int .i64 x.vw) ∧ wr = w' := by
  obtain ⟨E, hI, _⟩ := h.ex
  exact iview_any hI
theorem r_installed (h : Ri w ib x wr) : Calls Try.prog 31 #[.pointer (some ⟨ib, 0, none⟩)] wr fun e w' => e = .returned (.bool x.on) ∧ wr = w' := by
  obtain ⟨E, hI, _⟩ := h.ex
  exact iinstalled_any hI
theorem r_next (h : Ri w ib x wr) : Calls Try.prog 33 #[.pointer (some ⟨ib, 0, none⟩)] wr fun e w' => e = .returned (.int .i64 (nextAt x.L 16)) ∧ Below wr.heap.size wr w' := by
  obtain ⟨E, hI, _⟩ := h.ex
  exact inext_any hI
theorem r_certs (h : Ri w ib x wr) : Calls Try.prog 24 #[.pointer (some ⟨ib, 0, none⟩)] wr fun e w' => ∃ v, e = .returned v ∧ CtRow w' wr.heap.size v (certsL x.L) ∧ Below wr.heap.size wr w' := by
  obtain ⟨E, hI, _⟩ := h.ex
  exact icerts_any hI
theorem r_used (h : Ri w ib x wr) (r : Rq) : Calls Try.prog 35 #[.pointer (some ⟨ib, 0, none⟩), .agg #[.int .i64 r.cl, .int .i64 r.tm, .int .i64 r.kd, .int .i64 r.ky, .int .i64 r.vl, .int .i64 r.sg]] wr fun e w' => e = .returned (.bool (usedB x.L r)) ∧ Below wr.heap.size wr w' := by
  obtain ⟨E, hI, _⟩ := h.ex
  exact iused_any hI r
theorem r_leave (h : Ri w ib x wr) {v : Int} (h1 : x.vw < v) (h2 : v ≤ 12) {n : Nat} (hn : (n : Int) = 3 * x.f + 1) :
    Calls Try.prog 20 #[.pointer (some ⟨ib, 0, none⟩), .int .i64 v] wr fun e w' => e = .returned (.bool true) ∧ Ri w ib (x.gone n v 16) w' ∧ Kp wr w' :=
  h.lift fun _ hI _ => ileave_in hI h1 h2 hn
theorem r_leave_no (h : Ri w ib x wr) {v : Int} (hv : v ≤ x.vw ∨ 12 < v) :
    Calls Try.prog 20 #[.pointer (some ⟨ib, 0, none⟩), .int .i64 v] wr fun e w' => e = .returned (.bool false) ∧ wr = w' := by
  obtain ⟨E, hI, _⟩ := h.ex
  exact ileave_no hI hv
theorem r_install_on (h : Ri w ib x wr) (ho : x.on = true) (A : Option Addr) (n c : Nat) :
    Calls Try.prog 21 #[.pointer (some ⟨ib, 0, none⟩), .slice A n c] wr fun e w' => e = .returned (.bool false) ∧ wr = w' := by
  obtain ⟨E, hI, _⟩ := h.ex
  exact iinstall_on hI ho A n c
theorem r_install_nil (h : Ri w ib x wr) (ho : x.on = false) : Calls Try.prog 21 #[.pointer (some ⟨ib, 0, none⟩), .slice none 0 0] wr fun e w' => e = .returned (.bool true) ∧ Ri w ib (x.inst [] 0) w' ∧ Kp wr w' :=
  h.lift fun E hI _ => iinstall_in (B := 0) hI ho (Has.nil _ _ _) rfl (by omega) (by simp) (fun _ _ => Nat.zero_le _)
theorem r_commits (h : Ri w ib x wr) (hk : x.L[k]? = some p) (hon : x.on = true) (hc : p.co = none) {q : Nat} (hq : (q : Int) = 2 * x.f + 1) {b : List Rq} {v : List Vt} (hn : p.s.com q = some (b, v)) :
    Calls Try.prog 18 #[.pointer (some ⟨ib, 0, none⟩), .int .i64 ((k : Int) + 1)] wr fun e w' => ∃ A d B d', e = .returned (.tuple #[.agg #[.int .i64 x.vw, .int .i64 x.num, .int .i64 ((k : Int) + 1), .slice A b.length d, .slice B v.length d'], .bool true]) ∧ CtNew w' wr.heap.size ⟨x.vw, x.num, (k : Int) + 1, b, v⟩ A d B d' ∧ Ri w ib (x.put k ⟨p.s, p.pr, some ⟨x.vw, x.num, (k : Int) + 1, b, v⟩⟩) w' ∧ Kp wr w' := by
  obtain ⟨E, h1, h2⟩ := h.ex
  obtain ⟨e, he, rfl⟩ := h1.pick hk
  refine (icommits_in h1 he hon hc hq hn).mono ?_
  rintro e' w' ⟨A, d, B, d', hr, hnew, E', a1, a2, a3, a4⟩
  refine ⟨A, d, B, d', hr, hnew, ⟨h.low.trans (a3.below h.low.size (fun j hj hz => by have := h2 j hz; omega)), E', a1, fun j hj => ?_⟩, IZ ib E, a3, h1.far⟩
  rcases a2 j hj with h3 | h3
  · exact h2 j h3
  · exact Nat.le_trans h.low.size h3
theorem r_commits_no (h : Ri w ib x wr) (hk : x.L[k]? = some p) (hon : x.on = true) {q : Nat} (hq : (q : Int) = 2 * x.f + 1) (hn : p.co.isSome = true ∨ p.s.com q = none) :
    Calls Try.prog 18 #[.pointer (some ⟨ib, 0, none⟩), .int .i64 ((k : Int) + 1)] wr fun e w' => e = .returned (.tuple #[.agg #[.int .i64 0, .int .i64 0, .int .i64 0, .slice none 0 0, .slice none 0 0], .bool false]) ∧ Below wr.heap.size wr w' := by
  obtain ⟨E, h1, h2⟩ := h.ex
  obtain ⟨e, he, rfl⟩ := h1.pick hk
  cases hc : e.x.co with
  | some c => exact icommits_had h1 he hon (by rw [hc]; rfl)
  | none => exact icommits_none h1 he hon hc hq (hn.resolve_left (by rw [hc]; simp))
theorem r_prepared (h : Ri w ib x wr) (hk : x.L[k]? = some p) (hon : x.on = true) (hc : ∀ c, p.pr = some c → c.vw ≠ x.vw) {q : Nat} (hq : (q : Int) = 2 * x.f + 1) {b : List Rq} {v : List Vt} (hn : p.s.prep q = some v) (hb : p.s.ch = some b) :
    Calls Try.prog 23 #[.pointer (some ⟨ib, 0, none⟩), .int .i64 ((k : Int) + 1)] wr fun e w' => ∃ A d B d', e = .returned (.tuple #[.agg #[.int .i64 x.vw, .int .i64 x.num, .int .i64 ((k : Int) + 1), .slice A b.length d, .slice B v.length d'], .bool true]) ∧ CtNew w' wr.heap.size ⟨x.vw, x.num, (k : Int) + 1, b, v⟩ A d B d' ∧ Ri w ib (x.put k ⟨p.s, some ⟨x.vw, x.num, (k : Int) + 1, b, v⟩, p.co⟩) w' ∧ Kp wr w' := by
  obtain ⟨E, h1, h2⟩ := h.ex
  obtain ⟨e, he, rfl⟩ := h1.pick hk
  refine (iprepared_in h1 he hon hc hq hn hb).mono ?_
  rintro e' w' ⟨A, d, B, d', hr, hnew, E', a1, a2, a3, a4⟩
  refine ⟨A, d, B, d', hr, hnew, ⟨h.low.trans (a3.below h.low.size (fun j hj hz => by have := h2 j hz; omega)), E', a1, fun j hj => ?_⟩, IZ ib E, a3, h1.far⟩
  rcases a2 j hj with h3 | h3
  · exact h2 j h3
  · exact Nat.le_trans h.low.size h3
theorem r_prepared_no (h : Ri w ib x wr) (hk : x.L[k]? = some p) (hon : x.on = true) {q : Nat} (hq : (q : Int) = 2 * x.f + 1) (hn : (∃ c, p.pr = some c ∧ c.vw = x.vw) ∨ p.s.prep q = none) :
    Calls Try.prog 23 #[.pointer (some ⟨ib, 0, none⟩), .int .i64 ((k : Int) + 1)] wr fun e w' => e = .returned (.tuple #[.agg #[.int .i64 0, .int .i64 0, .int .i64 0, .slice none 0 0, .slice none 0 0], .bool false]) ∧ Below wr.heap.size wr w' := by
  obtain ⟨E, h1, h2⟩ := h.ex
  obtain ⟨e, he, rfl⟩ := h1.pick hk
  by_cases hc : ∃ c, e.x.pr = some c ∧ c.vw = x.vw
  · obtain ⟨c, hc, hv⟩ := hc
    exact iprepared_had h1 he hon hc hv
  · exact iprepared_none h1 he hon (fun c h3 h4 => hc ⟨c, h3, h4⟩) hq (hn.resolve_left hc)
theorem r_prepared_shut (h : Ri w ib x wr) {sq : Int} (ho : x.on = false ∨ ¬ (1 ≤ sq ∧ sq ≤ 16)) :
    Calls Try.prog 23 #[.pointer (some ⟨ib, 0, none⟩), .int .i64 sq] wr fun e w' => e = .returned (.tuple #[.agg #[.int .i64 0, .int .i64 0, .int .i64 0, .slice none 0 0, .slice none 0 0], .bool false]) ∧ Below wr.heap.size wr w' := by
  obtain ⟨E, hI, _⟩ := h.ex
  exact iprepared_shut hI ho
theorem r_adopt (h : Ri w ib x wr) (hk : x.L[k]? = some p) (hc : p.co = none) (vw : Int) {b : List Rq} {v : List Vt} {A B : Option Addr} {n m B0 : Nat} (h1 : Has wr B0 A (reqCells b)) (h2 : Has wr B0 B (voteCells v)) (hn1 : b.length = n) (hn2 : v.length = m) (hB0 : B0 ≤ wr.heap.size) (l1 : n ≤ 1000000) (l2 : m ≤ 1000000) (d d' : Nat) :
    Calls Try.prog 13 #[.pointer (some ⟨ib, 0, none⟩), .agg #[.int .i64 vw, .int .i64 x.num, .int .i64 ((k : Int) + 1), .slice A n d, .slice B m d']] wr fun e w' => e = .returned (.bool true) ∧ Ri w ib (x.put k ⟨p.s, p.pr, some ⟨vw, x.num, (k : Int) + 1, b, v⟩⟩) w' ∧ Kp wr w' :=
  h.lift fun E hI _ => by
    obtain ⟨e, he, rfl⟩ := hI.pick hk
    exact iadopt_in hI he hc vw h1 h2 hn1 hn2 hB0 l1 l2 d d'
theorem r_adopt_no (h : Ri w ib x wr) (hk : x.L[k]? = some p) (vw : Int) {ins : Int} (hn : p.co.isSome = true ∨ ins ≠ x.num) (A : Option Addr) (n d : Nat) (B : Option Addr) (m d' : Nat) :
    Calls Try.prog 13 #[.pointer (some ⟨ib, 0, none⟩), .agg #[.int .i64 vw, .int .i64 ins, .int .i64 ((k : Int) + 1), .slice A n d, .slice B m d']] wr fun e w' => e = .returned (.bool false) ∧ Below wr.heap.size wr w' := by
  obtain ⟨E, h1, h2⟩ := h.ex
  obtain ⟨e, he, rfl⟩ := h1.pick hk
  cases hc : e.x.co with
  | some c => exact iadopt_had h1 he (by rw [hc]; rfl) vw ins A n d B m d'
  | none => exact iadopt_ins h1 he hc vw (hn.resolve_left (by rw [hc]; simp)) A n d B m d'
theorem r_committed (h : Ri w ib x wr) (hk : x.L[k]? = some p) {c : Ct} (hc : p.co = some c) :
    Calls Try.prog 32 #[.pointer (some ⟨ib, 0, none⟩), .int .i64 ((k : Int) + 1)] wr fun e w' => ∃ A d B d', e = .returned (.tuple #[.agg #[.int .i64 c.vw, .int .i64 c.ins, .int .i64 c.sq, .slice A c.bt.length d, .slice B c.vs.length d'], .bool true]) ∧ CtNew w' wr.heap.size c A d B d' ∧ Below wr.heap.size wr w' := by
  obtain ⟨E, h1, h2⟩ := h.ex
  obtain ⟨e, he, rfl⟩ := h1.pick hk
  exact icommitted_in h1 he hc
theorem r_committed_none (h : Ri w ib x wr) (hk : x.L[k]? = some p) (hc : p.co = none) :
    Calls Try.prog 32 #[.pointer (some ⟨ib, 0, none⟩), .int .i64 ((k : Int) + 1)] wr fun e w' => e = .returned (.tuple #[.agg #[.int .i64 0, .int .i64 0, .int .i64 0, .slice none 0 0, .slice none 0 0], .bool false]) ∧ Below wr.heap.size wr w' := by
  obtain ⟨E, h1, h2⟩ := h.ex
  obtain ⟨e, he, rfl⟩ := h1.pick hk
  exact icommitted_none h1 he hc
end
/-- The document's example. -/
def wkI (k : Nat) : Sx := ⟨none, List.replicate 4 offV, (List.range 4).map fun j => if j < k then ⟨true, 5, [wk14]⟩ else offV⟩
def wkX (k : Nat) (c : Option Ct) : Ix := ⟨1, 0, 4, 0, true, (List.replicate 16 ⟨Sx.new 4, none, none⟩).set 0 ⟨wkI k, none, c⟩⟩
theorem wkI_vote : ∀ k, k < 3 → (wkI k).vote 5 (k : Int) 5 [wk14] = (true, wkI (k + 1)) := by decide +kernel
theorem wkI_com : (wkI 3).com 3 = some ([wk14], [⟨0, 5⟩, ⟨1, 5⟩, ⟨2, 5⟩]) := by decide +kernel
theorem wkX_new : Ix.new 1 0 4 4 = wkX 0 none := by
  unfold Ix.new wkX
  have : (List.replicate 16 (⟨Sx.new 4, none, none⟩ : Px)).set 0 ⟨wkI 0, none, none⟩ = List.replicate 16 ⟨Sx.new 4, none, none⟩ := rfl
  rw [this]
theorem wkX_done (c : Ct) : doneL (wkX 3 (some c)).L = 1 := rfl
set_option maxRecDepth 100000 in
set_option maxHeartbeats 2000000 in
theorem wakes15_any (w : World) : Calls Try.prog 16 #[] w fun e w' => e = .returned (.bool true) ∧ Below w.heap.size w w' := by
  go_enter Try.func16, Try.ntmps16
  go_wp2_with fail
  refine (r_new (f := 1) (num := 0) (ah := 4) (n := 4) (by omega) (by omega) (by omega) (by omega) (by omega) (by omega) (by omega) w w (Below.refl _ _)).mono ?_
  rintro e w1 ⟨ib, rfl, hR, -⟩
  rw [wkX_new] at hR
  have HR := Lib.hid hR
  clear hR
  go_wp2_with fail
  go_loopw [3] (fun y wr => ∃ k : Nat, y = .int .i64 k ∧ k ≤ 3 ∧ Hid (Ri w ib (wkX k none) wr)) (fun y _ => 3 - (intOf y).toNat)
  case atStart => exact ⟨0, rfl, Nat.zero_le _, HR⟩
  case round =>
    obtain ⟨k, rfl, hk, HR⟩ := hrel
    by_cases hlt : k < 3
    · have hlt' : (k : Int) < 3 := by omega
      have HBox := Lib.hid (Blk.new wr 41 #[.int .i64 0, .int .i64 1, .int .i64 0, .int .i64 0, .int .i64 0, .int .i64 0])
      have HR2 := Lib.hid (HR.out.below (wz := wr.alloc (.cells #[.int .i64 0, .int .i64 1, .int .i64 0, .int .i64 0, .int .i64 0, .int .i64 0] 41)) ((Below.refl _ _).alloc (Nat.le_refl _) _))
      have HV := Lib.hid (r_vote (k := 0) (p := ⟨wkI k, none, none⟩) (c := 1) HR2.out rfl rfl 5 k 5 (has_one wk14 HBox.out) (n := 1) rfl (by omega))
      simp only [wkI_vote k hlt] at HV
      clear HBox
      go_wp2_with fail
      refine HV.out.mono ?_
      rintro e w2 ⟨rfl, hr, -⟩
      have HR3 := Lib.hid (show Ri w ib (wkX (k + 1) none) w2 from hr)
      clear hr HV
      go_wp2_with fail
      go_roundw
      case rel => exact ⟨k + 1, by go_num, by omega, HR3⟩
      case measure => simp [intOf]; omega
    · obtain rfl : k = 3 := by omega
      have HC := Lib.hid (r_commits (k := 0) (p := ⟨wkI 3, none, none⟩) HR.out rfl rfl rfl (q := 3) rfl wkI_com)
      go_wp2_with fail
      refine HC.out.mono ?_
      rintro e w2 ⟨A, d, B, d', rfl, hn, hr, -⟩
      have HR3 := Lib.hid (show Ri w ib (wkX 3 (some ⟨0, 0, 1, [wk14], [⟨0, 5⟩, ⟨1, 5⟩, ⟨2, 5⟩]⟩)) w2 from hr)
      clear hr hn HC
      have HR4 := Lib.hid (HR3.out.below (wz := w2.alloc (.cells #[.int .i64 0, .int .i64 0, .int .i64 1, .slice A 1 d, .slice B 3 d'] 31)) ((Below.refl _ _).alloc (Nat.le_refl _) _))
      have HD := Lib.hid (r_done HR4.out)
      rw [wkX_done] at HD
      go_wp2_with fail
      refine HD.out.mono ?_
      rintro e w4 ⟨rfl, rfl⟩
      go_wp2_with fail
      go_ret
      exact ⟨rfl, HR4.out.low⟩
end Go.Proofs.Ytpdmflhbmimhgaa
namespace Go.Proofs.Ytpdmflhbmimhgaa
open Go.RowKit
set_option linter.unusedSimpArgs false

/-- Only blocks of the type T lie in Y. -/
def Only1 (w : World) (T : TypeId) (Y : Nat → Prop) : Prop := ∀ k t cs, Blk w k t cs → t ≠ T → ¬ Y k
section
variable {w w' : World} {T : TypeId} {Y : Nat → Prop}
theorem Only1.own (h : Only1 w T Y) {b m n : Nat} {t : TypeId} {v : Value} {xs : List Value} (ho : w.ownsRow b t m v n xs) (h1 : t ≠ T) : ∀ g, v.ownBlock = some g → ¬ Y g := by
  intro g hg
  rcases ho.2 with ⟨rfl, _⟩ | ⟨g', cap, cur, rfl, _, hh, _⟩
  · cases hg
  · have : g' = g := Option.some.inj hg
    subst this
    exact h g' t cur (show Blk w g' t cur from hh) h1
theorem Sl.turned {Z : Nat → Prop} {sb : Nat} {v1 v2 : Value} {f : Int} {s : Sx} (h : Sl w Z sb v1 v2 f s) (ht : Turn Y w w') (hf : Only1 w T Y) (h1 : 108 ≠ T) (h2 : 113 ≠ T) (h3 : 41 ≠ T) : Sl w' Z sb v1 v2 f s := by
  obtain ⟨cv, M1, M2, a, b, c, d⟩ := h.mem
  refine h.kept ht ?_ (fun u b hb => hf.own hb.own h3)
  rintro k (rfl | hk | hk)
  · exact hf k _ _ a h1
  · exact hf.own c.own h2 k hk
  · exact hf.own d.own h2 k hk
theorem CtAt.turned {a : Option Nat} {o : Option Ct} (h : CtAt w a o) (ht : Turn Y w w') (hf : Only1 w T Y) (h1 : 31 ≠ T) (h2 : 41 ≠ T) (h3 : 99 ≠ T) : CtAt w' a o := by
  cases a <;> cases o
  · trivial
  · exact h
  · exact h
  · obtain ⟨A, d, B, e, h⟩ := h
    exact ⟨A, d, B, e, ht.blk h.blk (hf _ _ _ h.blk h1), ht.own h.bt (hf.own h.bt h2), ht.own h.vs (hf.own h.vs h3), h.lb, h.lv⟩
theorem Ri.turned {w0 : World} {ib : Nat} {x : Ix} (h : Ri w0 ib x w) (ht : Turn Y w w') (hf : Only1 w T Y) (hy : ∀ k, Y k → w0.heap.size ≤ k) (h0 : 84 ≠ T) (h1 : 108 ≠ T) (h2 : 113 ≠ T) (h3 : 41 ≠ T) (h4 : 31 ≠ T) (h5 : 99 ≠ T) : Ri w0 ib x w' := by
  obtain ⟨E, hI, hz⟩ := h.ex
  exact ⟨h.low.trans (ht.below h.low.size (fun j hj e => by have := hy j e; omega)), E, ⟨hI.f1, hI.f4, hI.num, hI.ah, hI.vw, hI.ln, hI.is, ht.blk hI.blk (hf _ _ _ hI.blk h0), fun i e he => ⟨(hI.all i e he).sl.turned ht hf h1 h2 h3, (hI.all i e he).pr.turned ht hf h4 h3 h5, (hI.all i e he).co.turned ht hf h4 h3 h5⟩, hI.ap⟩, hz⟩
/-- A store into a block of another type. -/
theorem Ri.stored {w0 : World} {ib g i : Nat} {x : Ix} {cs : Array Value} (h : Ri w0 ib x w) (hb : Blk w g T cs) (hg : w0.heap.size ≤ g) (u : Value) (h0 : 84 ≠ T) (h1 : 108 ≠ T) (h2 : 113 ≠ T) (h3 : 41 ≠ T) (h4 : 31 ≠ T) (h5 : 99 ≠ T) : Ri w0 ib x (w.setCell ⟨g, i, none⟩ u) :=
  h.turned (Y := fun k => k = g) ((Turn.refl (fun k => k = g) w).set_ ⟨g, i, none⟩ u rfl) (fun k t cs hk hne e => hk.ne_ hb hne e) (fun k e => by omega) h0 h1 h2 h3 h4 h5
end
theorem doneL_co {L M : List Px} (h : L.map Px.co = M.map Px.co) : doneL L = doneL M := by
  unfold doneL
  have e : ∀ L : List Px, (L.takeWhile fun p => p.co.isSome).length = ((L.map Px.co).takeWhile fun o => o.isSome).length := by
    intro L
    induction L with
    | nil => rfl
    | cons p L ih =>
      rw [List.map_cons, List.takeWhile_cons, List.takeWhile_cons]
      cases p.co.isSome
      · rfl
      · simp [ih]
  rw [e, e, h]
theorem doneL_set {L : List Px} {k : Nat} {p p' : Px} (h : L[k]? = some p) (hc : p'.co = p.co) : doneL (L.set k p') = doneL L := by
  refine doneL_co ?_
  rw [List.map_set, hc]
  apply List.ext_getElem?
  intro i
  rw [List.getElem?_set]
  split
  · rename_i hik
    subst hik
    rw [List.length_map, if_pos (List.getElem?_eq_some_iff.1 h).1, List.getElem?_map, h]
    rfl
  · rfl
end Go.Proofs.Ytpdmflhbmimhgaa
