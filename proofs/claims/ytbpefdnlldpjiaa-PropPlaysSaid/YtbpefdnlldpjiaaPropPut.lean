/- Package prop: Put. -/
import Derived.Test.YtbpefdnlldpjiaaPropRow
import Derived.Test.YtbpefdnlldpjiaaPropRead
namespace Go.Proofs.Ytbpefdnlldpjiaa
open Go.RowKit Go.Sort
set_option linter.unusedSimpArgs false

theorem putAt_get {L : List Tr} {k : Nat} (h : k ≤ L.length) (x : Tr) : (putAt L k x)[k]? = some x := by
  unfold putAt
  rw [List.getElem?_append_right (by rw [List.length_take]; omega), List.length_take, Nat.min_eq_left h, Nat.sub_self]
  rfl
theorem putAt_set {L : List Tr} {k : Nat} (h : k ≤ L.length) (x y : Tr) : (putAt L k x).set k y = putAt L k y := by
  unfold putAt
  rw [List.set_append_right _ _ (by rw [List.length_take]; omega), List.length_take, Nat.min_eq_left h, Nat.sub_self, List.set_cons_zero]
/-- What a call of a table's leaves: the table, its rows where they were or in new memory. -/
def TbPost (w : World) (tb : Nat) (v : Value) (f n : Int) (L : List Tr) (w' : World) : Prop :=
  ∃ v', Tb w' tb v' f n L ∧ (∀ g, v'.ownBlock = some g → v.ownBlock = some g ∨ w.heap.size ≤ g) ∧ Turn (TZ tb v) w w'
theorem TbPost.same {w w' : World} {tb : Nat} {v : Value} {f n : Int} {L : List Tr} (h : Tb w tb v f n L) (hb : Below w.heap.size w w') : TbPost w tb v f n L w' := ⟨v, h.below hb, fun _ hg => Or.inl hg, Turn.of_below hb⟩
section
variable {w : World} {tb : Nat} {v : Value} {f n : Int} {L : List Tr}
set_option maxHeartbeats 2000000 in
theorem pput_bad (h : Tb w tb v f n L) (r : Rq) (nd ck : Int) (hc : ¬ (0 ≤ r.cl ∧ r.cl < n ∧ 0 ≤ nd ∧ nd < 3 * f + 1)) : Calls Try.prog 12 #[.pointer (some ⟨tb, 0, none⟩), .agg #[.int .i64 r.cl, .int .i64 r.tm, .int .i64 r.kd, .int .i64 r.ky, .int .i64 r.vl, .int .i64 r.sg], .int .i64 nd, .int .i64 ck] w fun e w' => e = .returned (.tuple #[.bool false, .bool false, .int .i64 1]) ∧ Below w.heap.size w w' := by
  have HN := Lib.hid (fun (w : World) => (show Calls Try.prog 25 #[.int .i64 f] w fun e w' => e = .returned (.int .i64 (3 * f + 1)) ∧ w' = w from by
    have := bnodes_any f w
    rw [nodesS_in h.ok.f1 h.ok.f4] at this
    exact this.mono fun _ _ he => ⟨he.1, he.2.symm⟩))
  have HB0 := Lib.hid (show Below w.heap.size w ((w.alloc (.cells #[.int .i64 r.cl, .int .i64 r.tm, .int .i64 r.kd, .int .i64 r.ky, .int .i64 r.vl, .int .i64 r.sg] 25))) from (Below.refl _ _).alloc (Nat.le_refl _) _)
  have HT := Lib.hid (h.below HB0.out)
  have HX := Lib.hid (Blk.new w 25 #[.int .i64 r.cl, .int .i64 r.tm, .int .i64 r.kd, .int .i64 r.ky, .int .i64 r.vl, .int .i64 r.sg])
  obtain ⟨w1, hw1⟩ : ∃ w1, w.alloc (.cells #[.int .i64 r.cl, .int .i64 r.tm, .int .i64 r.kd, .int .i64 r.ky, .int .i64 r.vl, .int .i64 r.sg] 25) = w1 := ⟨_, rfl⟩
  have HW1 := Lib.hid hw1
  rw [hw1] at HB0 HT HX
  clear hw1
  have k0 := fun (m : Nat) => (show (w1.drewN m).cell? ⟨tb, 0, none⟩ = some (.int .i64 f) from HT.out.blk.cell 0)
  have k1 := fun (m : Nat) => (show (w1.drewN m).cell? ⟨tb, 1, none⟩ = some (.int .i64 n) from HT.out.blk.cell 1)
  have d0 := fun (m : Nat) => (show (w1.drewN m).cell? ⟨w.heap.size, 0, none⟩ = some (.int .i64 r.cl) from HX.out.cell 0)
  obtain ⟨gt, hgt⟩ : ∃ g, w.heap.size = g := ⟨_, rfl⟩
  rw [hgt] at d0 HB0
  have l0 := k0 0
  have l1 := k1 0
  have m0 := d0 0
  clear h
  have hor : r.cl < 0 ∨ (¬ r.cl < 0 ∧ n ≤ r.cl) ∨ (¬ r.cl < 0 ∧ ¬ n ≤ r.cl ∧ nd < 0) ∨ (¬ r.cl < 0 ∧ ¬ n ≤ r.cl ∧ ¬ nd < 0 ∧ 3 * f + 1 ≤ nd) := by omega
  clear hc
  rcases hor with a | ⟨a, b⟩ | ⟨a, b, c⟩ | ⟨a, b, c, d⟩
  · have g1 : decide (r.cl < 0) = true := decide_eq_true a
    clear a
    go_enter Try.func12, Try.ntmps12
    go_wp2_with fail
    rw [HW1.out]
    go_quiet (fail)
    go_wp2_with fail
    go_ret3
    exact ⟨rfl, hgt ▸ HB0.out.trans ⟨rfl, rfl, rfl, Nat.le_refl _, fun _ _ => rfl⟩⟩
  · have g1 : decide (r.cl < 0) = false := decide_eq_false a
    have g2 : decide (n ≤ r.cl) = true := decide_eq_true b
    clear a b
    go_enter Try.func12, Try.ntmps12
    go_wp2_with fail
    rw [HW1.out]
    go_quiet (fail)
    go_wp2_with fail
    go_ret3
    exact ⟨rfl, hgt ▸ HB0.out.trans ⟨rfl, rfl, rfl, Nat.le_refl _, fun _ _ => rfl⟩⟩
  · have g1 : decide (r.cl < 0) = false := decide_eq_false a
    have g2 : decide (n ≤ r.cl) = false := decide_eq_false b
    have g3 : decide (nd < 0) = true := decide_eq_true c
    clear a b c
    go_enter Try.func12, Try.ntmps12
    go_wp2_with fail
    rw [HW1.out]
    go_quiet (fail)
    go_wp2_with fail
    go_ret3
    exact ⟨rfl, hgt ▸ HB0.out.trans ⟨rfl, rfl, rfl, Nat.le_refl _, fun _ _ => rfl⟩⟩
  · have g1 : decide (r.cl < 0) = false := decide_eq_false a
    have g2 : decide (n ≤ r.cl) = false := decide_eq_false b
    have g3 : decide (nd < 0) = false := decide_eq_false c
    have g4 : decide (3 * f + 1 ≤ nd) = true := decide_eq_true d
    clear a b c d
    go_enter Try.func12, Try.ntmps12
    go_wp2_with fail
    rw [HW1.out]
    go_quiet ((go_at_call 25; exact Calls.quiet_of_same (HN.out _)))
    go_wp2_with fail
    go_ret3
    exact ⟨rfl, hgt ▸ HB0.out.trans ⟨rfl, rfl, rfl, Nat.le_refl _, fun _ _ => rfl⟩⟩
/-! ### arguments that may be -/
set_option maxHeartbeats 4000000 in
theorem pput_old (h : Tb w tb v f n L) (r : Rq) (nd ck : Int) (hc : 0 ≤ r.cl ∧ r.cl < n ∧ 0 ≤ nd ∧ nd < 3 * f + 1) (hh : had L r = true) : Calls Try.prog 12 #[.pointer (some ⟨tb, 0, none⟩), .agg #[.int .i64 r.cl, .int .i64 r.tm, .int .i64 r.kd, .int .i64 r.ky, .int .i64 r.vl, .int .i64 r.sg], .int .i64 nd, .int .i64 ck] w fun e w' => e = .returned (.tuple #[.bool false, .bool (mark f (rowOf L r) nd ck).2, .int .i64 0]) ∧ TbPost w tb v f n (upd L (mark f (rowOf L r) nd ck).1) w' := by
  have HUpd := Lib.hid (show upd L (mark f (rowOf L r) nd ck).1 = L.set (seat L r) (mark f (rowOf L r) nd ck).1 by unfold upd; rw [mark_rq, rowOf_rq, if_pos hh])
  have HFine := Lib.hid (show Fine f n (upd L (mark f (rowOf L r) nd ck).1) from by
    have := h.ok.put r nd ck
    unfold putT at this
    rw [if_pos hc, if_neg (by rw [hh]; simp)] at this
    exact this)
  have H13 := Lib.hid (rowOf_len h.ok.len r)
  have HAt := Lib.hid (had_at h.ok.ris hh)
  have HN := Lib.hid (fun (w : World) => (show Calls Try.prog 25 #[.int .i64 f] w fun e w' => e = .returned (.int .i64 (3 * f + 1)) ∧ w' = w from by
    have := bnodes_any f w
    rw [nodesS_in h.ok.f1 h.ok.f4] at this
    exact this.mono fun _ _ he => ⟨he.1, he.2.symm⟩))
  have HWk := Lib.hid (fun w => bweak_any f w)
  rw [weakS_in h.ok.f1 h.ok.f4] at HWk
  have hB0 : Below w.heap.size w (w.alloc (.cells #[.int .i64 r.cl, .int .i64 r.tm, .int .i64 r.kd, .int .i64 r.ky, .int .i64 r.vl, .int .i64 r.sg] 25)) := (Below.refl _ _).alloc (Nat.le_refl _) _
  have HB0 := Lib.hid hB0
  have HT := Lib.hid (fun m => (h.below hB0).drewN m)
  have HX := Lib.hid (Blk.new w 25 #[.int .i64 r.cl, .int .i64 r.tm, .int .i64 r.kd, .int .i64 r.ky, .int .i64 r.vl, .int .i64 r.sg])
  obtain ⟨w1, hw1⟩ : ∃ w1, w.alloc (.cells #[.int .i64 r.cl, .int .i64 r.tm, .int .i64 r.kd, .int .i64 r.ky, .int .i64 r.vl, .int .i64 r.sg] 25) = w1 := ⟨_, rfl⟩
  have HW1 := Lib.hid hw1
  rw [hw1] at HB0 HT HX
  clear hw1 hB0
  have k0 := fun (m : Nat) => (show (w1.drewN m).cell? ⟨tb, 0, none⟩ = some (.int .i64 f) from (HT.out m).blk.cell 0)
  have k1 := fun (m : Nat) => (show (w1.drewN m).cell? ⟨tb, 1, none⟩ = some (.int .i64 n) from (HT.out m).blk.cell 1)
  have d0 := fun (m : Nat) => (show (w1.drewN m).cell? ⟨w.heap.size, 0, none⟩ = some (.int .i64 r.cl) from HX.out.cell 0)
  have d1 := fun (m : Nat) => (show (w1.drewN m).cell? ⟨w.heap.size, 1, none⟩ = some (.int .i64 r.tm) from HX.out.cell 1)
  have d2 := fun (m : Nat) => (show (w1.drewN m).cell? ⟨w.heap.size, 2, none⟩ = some (.int .i64 r.kd) from HX.out.cell 2)
  have d3 := fun (m : Nat) => (show (w1.drewN m).cell? ⟨w.heap.size, 3, none⟩ = some (.int .i64 r.ky) from HX.out.cell 3)
  have d4 := fun (m : Nat) => (show (w1.drewN m).cell? ⟨w.heap.size, 4, none⟩ = some (.int .i64 r.vl) from HX.out.cell 4)
  have d5 := fun (m : Nat) => (show (w1.drewN m).cell? ⟨w.heap.size, 5, none⟩ = some (.int .i64 r.sg) from HX.out.cell 5)
  have l0 := k0 0
  have l1 := k1 0
  have m0 := d0 0
  have hs16 : seat L r ≤ 16 := Nat.le_trans (seat_le L r) h.ok.most
  have g1 : decide (r.cl < 0) = false := decide_eq_false (by omega)
  have g2 : decide (n ≤ r.cl) = false := decide_eq_false (by omega)
  have g3 : decide (nd < 0) = false := decide_eq_false (by omega)
  have g4 : decide (3 * f + 1 ≤ nd) = false := decide_eq_false (by omega)
  have hnd13 : 0 ≤ nd ∧ nd < 13 := by have := h.ok.f4; omega
  obtain ⟨k, hk⟩ : ∃ k, seat L r = k := ⟨_, rfl⟩
  rw [hk] at hs16
  have HS := Lib.hid hk
  have HOK := Lib.hid h.ok
  have HHad := Lib.hid hh
  have HF := Lib.hid (fun m => pfind_any (HT.out m) r)
  rw [hk, hh] at HF
  have HC := Lib.hid hc
  clear h hk hh hc
  obtain ⟨gt, hgt⟩ : ∃ g, w.heap.size = g := ⟨_, rfl⟩
  rw [hgt] at d0 d1 d2 d3 d4 d5 m0 HX HB0
  go_enter Try.func12, Try.ntmps12
  go_wp2_with fail
  rw [HW1.out]
  go_quiet ((go_at_call 25; exact Calls.quiet_of_same (HN.out _)))
  clear g1 g2 g3 g4
  go_wp2_with fail
  refine (HF.out nq).mono ?_
  rintro e w3 ⟨rfl, hb3⟩
  have HB3 := Lib.hid (show Below w.heap.size w w3 from hgt ▸ HB0.out.trans (Below.trans (⟨rfl, rfl, rfl, Nat.le_refl _, fun _ _ => rfl⟩ : Below gt w1 (w1.drewN nq)) (hb3.mono (show gt ≤ (w1.drewN nq).heap.size from hgt ▸ HB0.out.size))))
  have HT3 := Lib.hid ((HT.out nq).below hb3)
  have HX3 := Lib.hid (Blk.below (HX.out.drewN nq) hb3 HX.out.lt)
  clear hb3 k0 k1 d0 d1 d2 d3 d4 d5 l0 l1 m0 HF HT HX HN
  obtain ⟨ad, c, rfl, hkl, hab, hR, -⟩ := HT3.out.here HHad.out
  obtain ⟨g, hg⟩ : ∃ g, ad = ⟨g, 0, none⟩ := by
    obtain ⟨g, c2, hv, _, _⟩ := HT3.out.row.form (by omega)
    injection hv with a _ _
    injection a with a
    exact ⟨g, a⟩
  subst hg
  obtain ⟨x, hx1, hx2, hx3⟩ := HAt.out
  rw [HS.out] at hkl hx1
  have HX4 := Lib.hid (show L[k]? = some (rowOf L r) by rw [hx3]; exact hx1)
  have HPut := Lib.hid (prow_put (w := w3.drew) HT3.out.row.drew rfl HX4.out H13.out hnd13 f ck)
  obtain ⟨b, hb⟩ : ∃ b, (mark f (rowOf L r) nd ck).2 = b := ⟨_, rfl⟩
  have HBo := Lib.hid hb
  obtain ⟨n0, hn0⟩ : ∃ n0, L.length = n0 := ⟨_, rfl⟩
  rw [hn0] at hkl HPut HT3
  have q0 : w3.drew.cell? ⟨tb, 0, none⟩ = some (.int .i64 f) := HT3.out.blk.cell 0
  have q2 : w3.drew.cell? ⟨tb, 2, none⟩ = some (.slice (some ⟨g, 0, none⟩) n0 c) := HT3.out.blk.cell 2
  have HN0 := Lib.hid hn0
  have hki : (k : Int) < (n0 : Int) := by omega
  have HKept := Lib.hid (fun (wz : World) (ht : Turn (fun j => j = g) w3.drew wz) => show wz.cell? ⟨tb, 0, none⟩ = some (.int .i64 f) ∧ wz.cell? ⟨tb, 2, none⟩ = some (.slice (some ⟨g, 0, none⟩) n0 c) from by
    have hne : ¬ tb = g := fun e => HT3.out.ne (by rw [e]; rfl)
    have hbk := ht.block tb HT3.out.blk.lt hne
    exact ⟨(World.cell?_of_block (a := ⟨tb, 0, none⟩) hbk).trans q0, (World.cell?_of_block (a := ⟨tb, 2, none⟩) hbk).trans q2⟩)
  clear hab hR hx1 hx2 hx3 hb hn0
  go_wp2_with fail
  go_region_held3 (fun w' => w'.cell? ⟨tb, 0, none⟩ = some (.int .i64 f) ∧ w'.cell? ⟨tb, 2, none⟩ = some (.slice (some ⟨g, 0, none⟩) n0 c)) (first | exact ⟨q0, q2⟩ | exact hq2 | go_keep)
    (first | (go_at_call 30; refine (HWk.out _).mono ?_; rintro e w5 ⟨rfl, rfl⟩)
           | (go_at_call 29; refine HPut.out.mono ?_; rintro e w6 ⟨rfl, ho6, ht6⟩; have hq2 := HKept.out _ ht6))
  have HO6 := Lib.hid ho6
  have HT6 := Lib.hid ht6
  clear ho6 ht6 hq2 q0 q2
  go_wp2_with fail
  go_ret3
  refine ⟨rfl, _, ⟨HT6.out.blk HT3.out.blk.drew (fun e => HT3.out.ne (by rw [e]; rfl)), ?_, HFine.out⟩, fun _ hg => Or.inl hg, ?_⟩
  · have hl : (L.set k (mark f (rowOf L r) nd ck).1).length = n0 := by rw [List.length_set, HN0.out]
    rw [HUpd.out, HS.out, hl]
    exact HO6.out
  · exact (Turn.of_below HB3.out).trans (((Turn.refl _ w3).drewN 1).trans (HT6.out.mono (fun j _ e => by rw [e]; exact Or.inr rfl)))
set_option maxHeartbeats 4000000 in
theorem pput_full (h : Tb w tb v f n L) (r : Rq) (nd ck : Int) (hc : 0 ≤ r.cl ∧ r.cl < n ∧ 0 ≤ nd ∧ nd < 3 * f + 1) (hh : had L r = false) (hp : pend L r.cl = 4) : Calls Try.prog 12 #[.pointer (some ⟨tb, 0, none⟩), .agg #[.int .i64 r.cl, .int .i64 r.tm, .int .i64 r.kd, .int .i64 r.ky, .int .i64 r.vl, .int .i64 r.sg], .int .i64 nd, .int .i64 ck] w fun e w' => e = .returned (.tuple #[.bool false, .bool false, .int .i64 3]) ∧ Below w.heap.size w w' := by
  have HN := Lib.hid (fun (w : World) => (show Calls Try.prog 25 #[.int .i64 f] w fun e w' => e = .returned (.int .i64 (3 * f + 1)) ∧ w' = w from by
    have := bnodes_any f w
    rw [nodesS_in h.ok.f1 h.ok.f4] at this
    exact this.mono fun _ _ he => ⟨he.1, he.2.symm⟩))
  have HWk := Lib.hid (fun w => bweak_any f w)
  rw [weakS_in h.ok.f1 h.ok.f4] at HWk
  have hB0 : Below w.heap.size w (w.alloc (.cells #[.int .i64 r.cl, .int .i64 r.tm, .int .i64 r.kd, .int .i64 r.ky, .int .i64 r.vl, .int .i64 r.sg] 25)) := (Below.refl _ _).alloc (Nat.le_refl _) _
  have HB0 := Lib.hid hB0
  have HT := Lib.hid (fun m => (h.below hB0).drewN m)
  have HX := Lib.hid (Blk.new w 25 #[.int .i64 r.cl, .int .i64 r.tm, .int .i64 r.kd, .int .i64 r.ky, .int .i64 r.vl, .int .i64 r.sg])
  obtain ⟨w1, hw1⟩ : ∃ w1, w.alloc (.cells #[.int .i64 r.cl, .int .i64 r.tm, .int .i64 r.kd, .int .i64 r.ky, .int .i64 r.vl, .int .i64 r.sg] 25) = w1 := ⟨_, rfl⟩
  have HW1 := Lib.hid hw1
  rw [hw1] at HB0 HT HX
  clear hw1 hB0
  have k0 := fun (m : Nat) => (show (w1.drewN m).cell? ⟨tb, 0, none⟩ = some (.int .i64 f) from (HT.out m).blk.cell 0)
  have k1 := fun (m : Nat) => (show (w1.drewN m).cell? ⟨tb, 1, none⟩ = some (.int .i64 n) from (HT.out m).blk.cell 1)
  have d0 := fun (m : Nat) => (show (w1.drewN m).cell? ⟨w.heap.size, 0, none⟩ = some (.int .i64 r.cl) from HX.out.cell 0)
  have d1 := fun (m : Nat) => (show (w1.drewN m).cell? ⟨w.heap.size, 1, none⟩ = some (.int .i64 r.tm) from HX.out.cell 1)
  have d2 := fun (m : Nat) => (show (w1.drewN m).cell? ⟨w.heap.size, 2, none⟩ = some (.int .i64 r.kd) from HX.out.cell 2)
  have d3 := fun (m : Nat) => (show (w1.drewN m).cell? ⟨w.heap.size, 3, none⟩ = some (.int .i64 r.ky) from HX.out.cell 3)
  have d4 := fun (m : Nat) => (show (w1.drewN m).cell? ⟨w.heap.size, 4, none⟩ = some (.int .i64 r.vl) from HX.out.cell 4)
  have d5 := fun (m : Nat) => (show (w1.drewN m).cell? ⟨w.heap.size, 5, none⟩ = some (.int .i64 r.sg) from HX.out.cell 5)
  have l0 := k0 0
  have l1 := k1 0
  have m0 := d0 0
  have hs16 : seat L r ≤ 16 := Nat.le_trans (seat_le L r) h.ok.most
  have g1 : decide (r.cl < 0) = false := decide_eq_false (by omega)
  have g2 : decide (n ≤ r.cl) = false := decide_eq_false (by omega)
  have g3 : decide (nd < 0) = false := decide_eq_false (by omega)
  have g4 : decide (3 * f + 1 ≤ nd) = false := decide_eq_false (by omega)
  have hnd13 : 0 ≤ nd ∧ nd < 13 := by have := h.ok.f4; omega
  obtain ⟨k, hk⟩ : ∃ k, seat L r = k := ⟨_, rfl⟩
  rw [hk] at hs16
  have HS := Lib.hid hk
  have HOK := Lib.hid h.ok
  have HHad := Lib.hid hh
  have HF := Lib.hid (fun m => pfind_any (HT.out m) r)
  rw [hk, hh] at HF
  have HC := Lib.hid hc
  clear h hk hh hc
  obtain ⟨gt, hgt⟩ : ∃ g, w.heap.size = g := ⟨_, rfl⟩
  rw [hgt] at d0 d1 d2 d3 d4 d5 m0 HX HB0
  go_enter Try.func12, Try.ntmps12
  go_wp2_with fail
  rw [HW1.out]
  go_quiet ((go_at_call 25; exact Calls.quiet_of_same (HN.out _)))
  clear g1 g2 g3 g4
  go_wp2_with fail
  refine (HF.out nq).mono ?_
  rintro e w3 ⟨rfl, hb3⟩
  have HB3 := Lib.hid (show Below w.heap.size w w3 from hgt ▸ HB0.out.trans (Below.trans (⟨rfl, rfl, rfl, Nat.le_refl _, fun _ _ => rfl⟩ : Below gt w1 (w1.drewN nq)) (hb3.mono (show gt ≤ (w1.drewN nq).heap.size from hgt ▸ HB0.out.size))))
  have HT3 := Lib.hid ((HT.out nq).below hb3)
  have HX3 := Lib.hid (Blk.below (HX.out.drewN nq) hb3 HX.out.lt)
  clear hb3 k0 k1 d0 d1 d2 d3 d4 d5 l0 l1 m0 HF HT HX HN
  have e0 : w3.cell? ⟨gt, 0, none⟩ = some (.int .i64 r.cl) := HX3.out.cell 0
  have HPd := Lib.hid (ppend_any HT3.out r.cl)
  rw [hp] at HPd
  go_wp2_with fail
  refine HPd.out.mono ?_
  rintro e w4 ⟨rfl, hb4⟩
  have HB4 := Lib.hid (HB3.out.trans (hb4.mono HB3.out.size))
  clear hb4
  go_wp2_with fail
  go_ret3
  exact ⟨rfl, HB4.out⟩
theorem turn_then {Z Z' : Nat → Prop} {a b c : World} (h : Turn Z a b) (k : Turn Z' b c) (hz : ∀ j, j < a.heap.size → Z' j → Z j) : Turn Z a c :=
  ⟨k.os.trans h.os, k.tape.trans h.tape, k.output.trans h.output, Nat.le_trans h.size k.size, fun i hi hg => (k.block i (Nat.lt_of_lt_of_le hi h.size) (fun hk => hg (hz i hi hk))).trans (h.block i hi hg)⟩
theorem blank_cells (r : Rq) : (blank r).cells.toArray = #[.int .i64 r.cl, .int .i64 r.tm, .int .i64 r.kd, .int .i64 r.ky, .int .i64 r.vl, .int .i64 r.sg, .int .u16 0, .int .i64 0] := rfl
set_option maxHeartbeats 4000000 in
theorem pput_add (h : Tb w tb v f n L) (r : Rq) (nd ck : Int) (hc : 0 ≤ r.cl ∧ r.cl < n ∧ 0 ≤ nd ∧ nd < 3 * f + 1) (hh : had L r = false) (hp : pend L r.cl ≠ 4) : Calls Try.prog 12 #[.pointer (some ⟨tb, 0, none⟩), .agg #[.int .i64 r.cl, .int .i64 r.tm, .int .i64 r.kd, .int .i64 r.ky, .int .i64 r.vl, .int .i64 r.sg], .int .i64 nd, .int .i64 ck] w fun e w' => e = .returned (.tuple #[.bool true, .bool (mark f (rowOf L r) nd ck).2, .int .i64 0]) ∧ TbPost w tb v f n (upd L (mark f (rowOf L r) nd ck).1) w' := by
  have HUpd := Lib.hid (show upd L (mark f (rowOf L r) nd ck).1 = putAt L (seat L r) (mark f (rowOf L r) nd ck).1 by unfold upd; rw [mark_rq, rowOf_rq, if_neg (by rw [hh]; simp)])
  have HFine := Lib.hid (show Fine f n (upd L (mark f (rowOf L r) nd ck).1) from by
    have := h.ok.put r nd ck
    unfold putT at this
    rw [if_pos hc, if_neg (fun hq => hp hq.2)] at this
    exact this)
  have HBl := Lib.hid (rowOf_no hh)
  have HLe := Lib.hid (seat_le L r)
  have HMst := Lib.hid h.ok.most
  have HN := Lib.hid (fun (w : World) => (show Calls Try.prog 25 #[.int .i64 f] w fun e w' => e = .returned (.int .i64 (3 * f + 1)) ∧ w' = w from by
    have := bnodes_any f w
    rw [nodesS_in h.ok.f1 h.ok.f4] at this
    exact this.mono fun _ _ he => ⟨he.1, he.2.symm⟩))
  have HWk := Lib.hid (fun w => bweak_any f w)
  rw [weakS_in h.ok.f1 h.ok.f4] at HWk
  have hB0 : Below w.heap.size w (w.alloc (.cells #[.int .i64 r.cl, .int .i64 r.tm, .int .i64 r.kd, .int .i64 r.ky, .int .i64 r.vl, .int .i64 r.sg] 25)) := (Below.refl _ _).alloc (Nat.le_refl _) _
  have HB0 := Lib.hid hB0
  have HT := Lib.hid (fun m => (h.below hB0).drewN m)
  have HX := Lib.hid (Blk.new w 25 #[.int .i64 r.cl, .int .i64 r.tm, .int .i64 r.kd, .int .i64 r.ky, .int .i64 r.vl, .int .i64 r.sg])
  obtain ⟨w1, hw1⟩ : ∃ w1, w.alloc (.cells #[.int .i64 r.cl, .int .i64 r.tm, .int .i64 r.kd, .int .i64 r.ky, .int .i64 r.vl, .int .i64 r.sg] 25) = w1 := ⟨_, rfl⟩
  have HW1 := Lib.hid hw1
  rw [hw1] at HB0 HT HX
  clear hw1 hB0
  have k0 := fun (m : Nat) => (show (w1.drewN m).cell? ⟨tb, 0, none⟩ = some (.int .i64 f) from (HT.out m).blk.cell 0)
  have k1 := fun (m : Nat) => (show (w1.drewN m).cell? ⟨tb, 1, none⟩ = some (.int .i64 n) from (HT.out m).blk.cell 1)
  have d0 := fun (m : Nat) => (show (w1.drewN m).cell? ⟨w.heap.size, 0, none⟩ = some (.int .i64 r.cl) from HX.out.cell 0)
  have d1 := fun (m : Nat) => (show (w1.drewN m).cell? ⟨w.heap.size, 1, none⟩ = some (.int .i64 r.tm) from HX.out.cell 1)
  have d2 := fun (m : Nat) => (show (w1.drewN m).cell? ⟨w.heap.size, 2, none⟩ = some (.int .i64 r.kd) from HX.out.cell 2)
  have d3 := fun (m : Nat) => (show (w1.drewN m).cell? ⟨w.heap.size, 3, none⟩ = some (.int .i64 r.ky) from HX.out.cell 3)
  have d4 := fun (m : Nat) => (show (w1.drewN m).cell? ⟨w.heap.size, 4, none⟩ = some (.int .i64 r.vl) from HX.out.cell 4)
  have d5 := fun (m : Nat) => (show (w1.drewN m).cell? ⟨w.heap.size, 5, none⟩ = some (.int .i64 r.sg) from HX.out.cell 5)
  have l0 := k0 0
  have l1 := k1 0
  have m0 := d0 0
  have hs16 : seat L r ≤ 16 := Nat.le_trans (seat_le L r) h.ok.most
  have g1 : decide (r.cl < 0) = false := decide_eq_false (by omega)
  have g2 : decide (n ≤ r.cl) = false := decide_eq_false (by omega)
  have g3 : decide (nd < 0) = false := decide_eq_false (by omega)
  have g4 : decide (3 * f + 1 ≤ nd) = false := decide_eq_false (by omega)
  have hnd13 : 0 ≤ nd ∧ nd < 13 := by have := h.ok.f4; omega
  obtain ⟨k, hk⟩ : ∃ k, seat L r = k := ⟨_, rfl⟩
  rw [hk] at hs16
  have HS := Lib.hid hk
  have HOK := Lib.hid h.ok
  have HHad := Lib.hid hh
  have HF := Lib.hid (fun m => pfind_any (HT.out m) r)
  rw [hk, hh] at HF
  have HC := Lib.hid hc
  clear h hk hh hc
  obtain ⟨gt, hgt⟩ : ∃ g, w.heap.size = g := ⟨_, rfl⟩
  rw [hgt] at d0 d1 d2 d3 d4 d5 m0 HX HB0
  go_enter Try.func12, Try.ntmps12
  go_wp2_with fail
  rw [HW1.out]
  go_quiet ((go_at_call 25; exact Calls.quiet_of_same (HN.out _)))
  clear g1 g2 g3 g4
  go_wp2_with fail
  refine (HF.out nq).mono ?_
  rintro e w3 ⟨rfl, hb3⟩
  have HB3 := Lib.hid (show Below w.heap.size w w3 from hgt ▸ HB0.out.trans (Below.trans (⟨rfl, rfl, rfl, Nat.le_refl _, fun _ _ => rfl⟩ : Below gt w1 (w1.drewN nq)) (hb3.mono (show gt ≤ (w1.drewN nq).heap.size from hgt ▸ HB0.out.size))))
  have HT3 := Lib.hid ((HT.out nq).below hb3)
  have HX3 := Lib.hid (Blk.below (HX.out.drewN nq) hb3 HX.out.lt)
  clear hb3 k0 k1 d0 d1 d2 d3 d4 d5 l0 l1 m0 HF HT HX HN
  have e0 : w3.cell? ⟨gt, 0, none⟩ = some (.int .i64 r.cl) := HX3.out.cell 0
  have HPd := Lib.hid (ppend_any HT3.out r.cl)
  obtain ⟨pd, hpd⟩ : ∃ p, pend L r.cl = p := ⟨_, rfl⟩
  rw [hpd] at HPd hp
  have g5 : ((pd : Int) == 4) = false := by simp; omega
  clear hpd
  go_wp2_with fail
  refine HPd.out.mono ?_
  rintro e w4 ⟨rfl, hb4⟩
  have HB4 := Lib.hid (HB3.out.trans (hb4.mono HB3.out.size))
  have HT4 := Lib.hid (HT3.out.below hb4)
  have HX4 := Lib.hid (HX3.out.below hb4 HX3.out.lt)
  clear hb4 e0
  obtain ⟨A, c, rfl, -, -⟩ := own_slice HT4.out.row
  obtain ⟨n0, hn0⟩ : ∃ n0, L.length = n0 := ⟨_, rfl⟩
  have HN0 := Lib.hid hn0
  have HRow := Lib.hid HT4.out.row
  have HLe2 := Lib.hid (show k ≤ n0 by rw [← hn0, ← HS.out]; exact HLe.out)
  rw [hn0] at HT4 HMst HRow
  have q2 : w4.drew.cell? ⟨tb, 2, none⟩ = some (.slice A n0 c) := HT4.out.blk.cell 2
  have e0 : w4.drew.cell? ⟨gt, 0, none⟩ = some (.int .i64 r.cl) := HX4.out.cell 0
  have e1 : w4.drew.cell? ⟨gt, 1, none⟩ = some (.int .i64 r.tm) := HX4.out.cell 1
  have e2 : w4.drew.cell? ⟨gt, 2, none⟩ = some (.int .i64 r.kd) := HX4.out.cell 2
  have e3 : w4.drew.cell? ⟨gt, 3, none⟩ = some (.int .i64 r.ky) := HX4.out.cell 3
  have e4 : w4.drew.cell? ⟨gt, 4, none⟩ = some (.int .i64 r.vl) := HX4.out.cell 4
  have e5 : w4.drew.cell? ⟨gt, 5, none⟩ = some (.int .i64 r.sg) := HX4.out.cell 5
  have q2b : (w4.alloc (.cells #[.int .i64 r.cl, .int .i64 r.tm, .int .i64 r.kd, .int .i64 r.ky, .int .i64 r.vl, .int .i64 r.sg, .int .u16 0, .int .i64 0] 70)).drew.cell? ⟨tb, 2, none⟩ = some (.slice A n0 c) := (HT4.out.blk.alloc _).drew.cell 2
  have HVb := Lib.hid (Blk.new w4 70 #[.int .i64 r.cl, .int .i64 r.tm, .int .i64 r.kd, .int .i64 r.ky, .int .i64 r.vl, .int .i64 r.sg, .int .u16 0, .int .i64 0]).drew
  have HTn5 := Lib.hid (show Turn (TZ tb (.slice A n0 c)) w (w4.alloc (.cells #[.int .i64 r.cl, .int .i64 r.tm, .int .i64 r.kd, .int .i64 r.ky, .int .i64 r.vl, .int .i64 r.sg, .int .u16 0, .int .i64 0] 70)).drew from ((Turn.of_below HB4.out).alloc _).drewN 1)
  have HRow5 := Lib.hid (HRow.out.alloc (.cells #[.int .i64 r.cl, .int .i64 r.tm, .int .i64 r.kd, .int .i64 r.ky, .int .i64 r.vl, .int .i64 r.sg, .int .u16 0, .int .i64 0] 70)).drew
  have HBk5 := Lib.hid (HT4.out.blk.alloc (.cells #[.int .i64 r.cl, .int .i64 r.tm, .int .i64 r.kd, .int .i64 r.ky, .int .i64 r.vl, .int .i64 r.sg, .int .u16 0, .int .i64 0] 70)).drew
  have HIns := Lib.hid (pins_any (L := L) (k := k) (vb := w4.heap.size) (x := blank r) HRow5.out hn0 HMst.out HLe2.out (by rw [blank_cells]; exact HVb.out) (fun e => by have := (HRow.out.lt _ e).2; omega))
  have HSz := Lib.hid (show w.heap.size ≤ (w4.alloc (.cells #[.int .i64 r.cl, .int .i64 r.tm, .int .i64 r.kd, .int .i64 r.ky, .int .i64 r.vl, .int .i64 r.sg, .int .u16 0, .int .i64 0] 70)).drew.heap.size from HTn5.out.size)
  have HTbNe := Lib.hid HT4.out.ne
  clear hn0
  go_wp2_with fail
  go_region_law (go_simp; go_at_call 28; refine HIns.out.mono ?_; rintro e w6 ⟨v6, rfl, ho6, ht6, hb6⟩; obtain ⟨A6, c6, rfl, -, -⟩ := own_slice ho6; have hbk6 := ht6.blk HBk5.out HTbNe.out; have s2 : w6.cell? ⟨tb, 2, none⟩ = some (.slice A n0 c) := hbk6.cell 2; have s2f : w6.frozen? ⟨tb, 2, none⟩ = false := hbk6.frozen 2)
  all_goals
    obtain ⟨g6, hg6⟩ : ∃ g, A6 = some ⟨g, 0, none⟩ := by
      obtain ⟨g, c2, hv, _, _⟩ := ho6.form (by omega)
      injection hv with a _ _
      exact ⟨g, a⟩
    subst hg6
    have hne6 : ¬ tb = g6 := fun e => own_blk_ne ho6 hbk6 (by decide) (by rw [e]; rfl)
    have HB7 := Lib.hid (hbk6.set_ 2 (.slice (some ⟨g6, 0, none⟩) (n0 + 1) c6))
    have HO7 := Lib.hid (own_far (p := ⟨tb, 2, none⟩) ho6 (fun e => hne6 (by injection e with e; exact e.symm)) (.slice (some ⟨g6, 0, none⟩) (n0 + 1) c6))
    have HT7 := Lib.hid ((turn_then HTn5.out ht6 (fun j _ hj => Or.inr hj)).set_ ⟨tb, 2, none⟩ (.slice (some ⟨g6, 0, none⟩) (n0 + 1) c6) (Or.inl rfl))
    have HG6 := Lib.hid (show ∀ j, j = g6 → (Value.slice A n0 c).ownBlock = some j ∨ w.heap.size ≤ j from fun j e => by
      rw [e]
      rcases hb6 with hb6 | ⟨g', h1, h2⟩
      · exact Or.inl (hb6 ▸ rfl)
      · injection h1 with h1
        have h1 : g6 = g' := h1
        exact Or.inr (by rw [h1]; exact Nat.le_trans HSz.out h2))
    obtain ⟨w7, hw7⟩ : ∃ w7, w6.setCell ⟨tb, 2, none⟩ (.slice (some ⟨g6, 0, none⟩) (n0 + 1) c6) = w7 := ⟨_, rfl⟩
    rw [hw7] at HB7 HO7 HT7 ⊢
    clear hw7 ho6 ht6 hb6 hbk6 s2 s2f q2 q2b e0 e1 e2 e3 e4 e5
    have HX4 := Lib.hid (show (putAt L k (blank r))[k]? = some (rowOf L r) by rw [HBl.out]; exact putAt_get (by rw [HN0.out]; exact HLe2.out) _)
    have HL4 := Lib.hid (show (putAt L k (blank r)).length = n0 + 1 by rw [putAt_len (by rw [HN0.out]; exact HLe2.out), HN0.out])
    have HPut := Lib.hid (prow_put (w := w7.drew) HO7.out.drew HL4.out HX4.out (by rw [HBl.out]; rfl) hnd13 f ck)
    obtain ⟨b, hb⟩ : ∃ b, (mark f (rowOf L r) nd ck).2 = b := ⟨_, rfl⟩
    have q0 : w7.drew.cell? ⟨tb, 0, none⟩ = some (.int .i64 f) := HB7.out.cell 0
    have q2 : w7.drew.cell? ⟨tb, 2, none⟩ = some (.slice (some ⟨g6, 0, none⟩) (n0 + 1) c6) := HB7.out.cell 2
    have hki : (k : Int) < ((n0 + 1 : Nat) : Int) := by have := HLe2.out; omega
    have hki2 : (k : Int) < (n0 : Int) + 1 := by have := HLe2.out; omega
    have HKept := Lib.hid (fun (wz : World) (ht : Turn (fun j => j = g6) w7.drew wz) => show wz.cell? ⟨tb, 0, none⟩ = some (.int .i64 f) ∧ wz.cell? ⟨tb, 2, none⟩ = some (.slice (some ⟨g6, 0, none⟩) (n0 + 1) c6) from by
      have hbk := ht.block tb HB7.out.lt hne6
      exact ⟨(World.cell?_of_block (a := ⟨tb, 0, none⟩) hbk).trans q0, (World.cell?_of_block (a := ⟨tb, 2, none⟩) hbk).trans q2⟩)
    clear hb
    go_wp2_with fail
    go_region_held3 (fun w' => w'.cell? ⟨tb, 0, none⟩ = some (.int .i64 f) ∧ w'.cell? ⟨tb, 2, none⟩ = some (.slice (some ⟨g6, 0, none⟩) (n0 + 1) c6)) (first | exact ⟨q0, q2⟩ | exact hq2 | go_keep)
      (first | (go_at_call 30; refine (HWk.out _).mono ?_; rintro e w5 ⟨rfl, rfl⟩)
             | (go_at_call 29; refine HPut.out.mono ?_; rintro e w8 ⟨rfl, ho8, ht8⟩; have hq2 := HKept.out _ ht8))
    have HO8 := Lib.hid ho8
    have HT8 := Lib.hid ht8
    clear ho8 ht8 hq2 q0 q2
    go_wp2_with fail
    go_ret3
    rw [show Value.slice A L.length c = Value.slice A n0 c by rw [HN0.out]]
    refine ⟨rfl, _, ⟨HT8.out.blk HB7.out.drew hne6, ?_, HFine.out⟩, fun j hj => HG6.out j (by injection hj with hj; exact hj.symm), ?_⟩
    · have hl : (putAt L k (mark f (rowOf L r) nd ck).1).length = n0 + 1 := by rw [putAt_len (by rw [HN0.out]; exact HLe2.out), HN0.out]
      have ho := HO8.out
      rw [putAt_set (by rw [HN0.out]; exact HLe2.out)] at ho
      rw [HUpd.out, HS.out, hl]
      exact ho
    · refine turn_then (HT7.out.drewN 1) HT8.out (fun j hjl e => ?_)
      rcases HG6.out j e with h1 | h1
      · exact Or.inr h1
      · omega
theorem pput_any (h : Tb w tb v f n L) (r : Rq) (nd ck : Int) : Calls Try.prog 12 #[.pointer (some ⟨tb, 0, none⟩), .agg #[.int .i64 r.cl, .int .i64 r.tm, .int .i64 r.kd, .int .i64 r.ky, .int .i64 r.vl, .int .i64 r.sg], .int .i64 nd, .int .i64 ck] w fun e w' => e = .returned (.tuple #[.bool (putT f n L r nd ck).1.1, .bool (putT f n L r nd ck).1.2.1, .int .i64 (putT f n L r nd ck).1.2.2]) ∧ TbPost w tb v f n (putT f n L r nd ck).2 w' := by
  unfold putT
  by_cases hc : 0 ≤ r.cl ∧ r.cl < n ∧ 0 ≤ nd ∧ nd < 3 * f + 1
  · rw [if_pos hc]
    cases hh : had L r
    · by_cases hp : pend L r.cl = 4
      · rw [if_pos ⟨rfl, hp⟩]
        exact (pput_full h r nd ck hc hh hp).mono fun _ _ ⟨h1, h2⟩ => ⟨h1, TbPost.same h h2⟩
      · rw [if_neg (fun q => hp q.2)]
        exact pput_add h r nd ck hc hh hp
    · rw [if_neg (by simp)]
      exact pput_old h r nd ck hc hh
  · rw [if_neg hc]
    exact (pput_bad h r nd ck hc).mono fun _ _ ⟨h1, h2⟩ => ⟨h1, TbPost.same h h2⟩
end
end Go.Proofs.Ytbpefdnlldpjiaa
