/- Package ledger: All, Store, Clone, Same; the example of the document. -/
import Derived.Test.YtpjcedilkahpiaaLedRun
import Derived.Test.YtpjcedilkahpiaaWq
namespace Go.Proofs.Ytpjcedilkahpiaa
open Go.RowKit Go.Maps Go.Sort
set_option linter.unusedSimpArgs false

theorem own_base {w : World} {b n s : Nat} {e : TypeId} {v : Value} {xs : List Value} (h : w.ownsRow b e s v n xs) : w.ownsRow 0 e s v n xs := by
  refine ⟨h.1, ?_⟩
  rcases h.2 with h | ⟨a, b, d, e1, e2, e3⟩
  · exact Or.inl h
  · exact Or.inr ⟨a, b, d, e1, Nat.zero_le _, e3⟩
section
variable {w : World} {b : Lb} {s : Sc} {E : List En}
theorem Lg.log_at (h : Lg w b s E) : ∃ A c, b.v = .slice A E.length c ∧ (A = none → c = 0) ∧ Has w w.heap.size A (entCells E) ∧ ∀ n, (w.drewN n).cell? ⟨b.lb, 1, none⟩ = some (.slice A E.length c) := by
  obtain ⟨A, c, hv, _, _⟩ := own_slice h.log
  have h1 := h.log
  rw [hv] at h1
  exact ⟨A, c, hv, own_nil h1, has_rows h1, fun n => hv ▸ (h.cells n).2.1⟩
set_option maxRecDepth 100000 in
theorem lall_any (h : Lg w b s E) (hN : b.N ≤ 1000000) : Calls Try.prog 15 #[.pointer (some ⟨b.lb, 0, none⟩)] w fun e w' => ∃ v, e = .returned v ∧ w'.ownsRow w.heap.size 36 7 v E.length (entCells E) ∧ Below w.heap.size w w' := by
  obtain ⟨A, c, hv, hn, hh, hc⟩ := h.log_at
  have hm : E.length ≤ 1000000 := Nat.le_trans h.few hN
  have HC := Lib.hid (ents_clone (c := c) hh rfl hm hn)
  have c1 : w.cell? ⟨b.lb, 1, none⟩ = _ := hc 0
  obtain ⟨m, hmm⟩ : ∃ m, E.length = m := ⟨_, rfl⟩
  rw [hmm] at c1 HC ⊢
  clear h hv hn hh hc hm hmm hN
  go_enter Try.func15, Try.ntmps15
  go_wp2_with fail
  refine HC.out.mono ?_
  rintro e w1 ⟨v, rfl, ho, hb⟩
  go_wp2_with fail
  go_ret
  exact ⟨_, rfl, ho, hb⟩
set_option maxRecDepth 100000 in
theorem lstore_any (h : Lg w b s E) : Calls Try.prog 21 #[.pointer (some ⟨b.lb, 0, none⟩)] w fun e w' => ∃ sb bm, e = .returned (.pointer (some ⟨sb, 0, none⟩)) ∧ St w' sb bm b.N s.1 ∧ w.heap.size ≤ sb ∧ w.heap.size ≤ bm ∧ Below w.heap.size w w' := by
  have HC := Lib.hid (sclone_any h.st)
  have c1 : w.cell? ⟨b.lb, 2, none⟩ = _ := (h.cells 0).2.2.1
  clear h
  go_enter Try.func21, Try.ntmps21
  go_wp2_with fail
  refine HC.out.mono ?_
  rintro e w1 ⟨sb, bm, rfl, hs, q1, q2, hb⟩
  go_wp2_with fail
  go_ret
  exact ⟨_, _, rfl, hs, q1, q2, hb⟩
set_option maxRecDepth 100000 in
set_option maxHeartbeats 4000000 in
theorem lclone_any (h : Lg w b s E) (hN : b.N ≤ 1000000) : Calls Try.prog 31 #[.pointer (some ⟨b.lb, 0, none⟩)] w fun e w' => ∃ b' : Lb, e = .returned (.pointer (some ⟨b'.lb, 0, none⟩)) ∧ Lg w' b' s E ∧ b'.N = b.N ∧ (∀ k, b'.zone k → w.heap.size ≤ k) ∧ Below w.heap.size w w' := by
  obtain ⟨A, c, hv, hn, hh, hc⟩ := (h.drewN 1).log_at
  have hm : E.length ≤ 1000000 := Nat.le_trans h.few hN
  have HE := Lib.hid (ents_clone (c := c) hh rfl hm hn)
  have hq1 : w.drew.cell? ⟨b.lb, 0, none⟩ = some (.int .i64 s.2.length) ∧ w.drew.cell? ⟨b.lb, 1, none⟩ = some (.slice A E.length c) ∧ w.drew.cell? ⟨b.lb, 2, none⟩ = some (.pointer (some ⟨b.sb, 0, none⟩)) ∧ w.drew.cell? ⟨b.lb, 3, none⟩ = some (.pointer (some ⟨b.cb, 0, none⟩)) :=
    ⟨(h.cells 1).1, hc 0, (h.cells 1).2.2.1, (h.cells 1).2.2.2⟩
  have HQ := Lib.hid (fun (w' : World) (hb : Below w.drew.heap.size w.drew w') => show w'.cell? ⟨b.lb, 0, none⟩ = some (.int .i64 s.2.length) ∧ w'.cell? ⟨b.lb, 1, none⟩ = some (.slice A E.length c) ∧ w'.cell? ⟨b.lb, 2, none⟩ = some (.pointer (some ⟨b.sb, 0, none⟩)) ∧ w'.cell? ⟨b.lb, 3, none⟩ = some (.pointer (some ⟨b.cb, 0, none⟩)) from by
    have hg : w'.heap[b.lb]? = w.drew.heap[b.lb]? := hb.block _ (h.lt (Or.inl rfl))
    exact ⟨(World.cell?_of_block (a := ⟨b.lb, 0, none⟩) hg).trans hq1.1, (World.cell?_of_block (a := ⟨b.lb, 1, none⟩) hg).trans hq1.2.1, (World.cell?_of_block (a := ⟨b.lb, 2, none⟩) hg).trans hq1.2.2.1, (World.cell?_of_block (a := ⟨b.lb, 3, none⟩) hg).trans hq1.2.2.2⟩)
  have HS := Lib.hid (h.drewN 1)
  have HF := Lib.hid h.few
  obtain ⟨m, hmm⟩ : ∃ m, E.length = m := ⟨_, rfl⟩
  have HM := Lib.hid hmm
  rw [hmm] at HE HQ hq1
  clear h hv hn hh hc hm hmm hN
  go_enter Try.func31, Try.ntmps31
  go_wp2_with fail
  go_region_held3 (fun w' => w'.cell? ⟨b.lb, 0, none⟩ = some (.int .i64 s.2.length) ∧ w'.cell? ⟨b.lb, 1, none⟩ = some (.slice A m c) ∧ w'.cell? ⟨b.lb, 2, none⟩ = some (.pointer (some ⟨b.sb, 0, none⟩)) ∧ w'.cell? ⟨b.lb, 3, none⟩ = some (.pointer (some ⟨b.cb, 0, none⟩))) (first | exact hq1 | exact hq2 | exact hq3 | exact hq4 | go_keep) ((first
    | (go_at_call 33; refine HE.out.mono ?_; rintro e w2 ⟨v, rfl, ho2, hb2⟩; obtain ⟨A2, e2, rfl, -, -⟩ := own_slice ho2; have hq2 := HQ.out w2 hb2)
    | (go_at_call 42; refine (sclone_any (HS.out.below hb2).st).mono ?_; rintro e w3 ⟨sb2, bm2, rfl, hs3, p1, p2, hb3⟩; have hq3 := HQ.out w3 (hb2.trans (hb3.mono hb2.size)))
    | (go_at_call 49; refine (cclone_any ((HS.out.below hb2).below hb3).ch).mono ?_; rintro e w4 ⟨cb2, g2, c2, rfl, hc4, p3, p4, hb4⟩; have hq4 := HQ.out w4 ((hb2.trans (hb3.mono hb2.size)).trans (hb4.mono (Nat.le_trans hb2.size hb3.size))))))
  have HR := Lib.hid ho2
  have HS3 := Lib.hid hs3
  have HC4 := Lib.hid hc4
  have HP := Lib.hid (And.intro (And.intro p1 p2) (And.intro p3 p4))
  have HB2 := Lib.hid hb2
  have HB3 := Lib.hid hb3
  have HB4 := Lib.hid hb4
  clear ho2 hs3 hc4 p1 p2 p3 p4 hb2 hb3 hb4 hq1 hq2 hq3 hq4 HQ HE
  go_wp2_with fail
  go_ret
  have hb5 : Below w4.heap.size w4 (w4.alloc (.cells #[.int .i64 s.2.length, .slice A2 m e2, .pointer (some ⟨sb2, 0, none⟩), .pointer (some ⟨cb2, 0, none⟩)] 71)) := (Below.refl _ _).alloc (Nat.le_refl _) _
  have b2 : Below w.heap.size w w2 := (below_drewN (Below.refl w.heap.size w) 1).trans HB2.out
  have z2 := b2.size
  have z3 := HB3.out.size
  have z4 := HB4.out.size
  have b3 := b2.trans (HB3.out.mono z2)
  have b4 := b3.trans (HB4.out.mono (Nat.le_trans z2 z3))
  obtain ⟨⟨p1, p2⟩, p3, p4⟩ := HP.out
  refine ⟨⟨w4.heap.size, sb2, bm2, b.N, cb2, g2, c2, .slice A2 m e2⟩, rfl, ⟨Blk.new w4 _ _, ?_, (HS3.out.below HB4.out).below hb5, HC4.out.below hb5, HF.out⟩, rfl, fun k hk => ?_, b4.trans (hb5.mono (by omega))⟩
  · rw [HM.out]
    exact own_base (below_own (below_own (below_own HR.out HB3.out (Nat.le_refl _)) HB4.out (Nat.le_refl _)) hb5 (Nat.le_refl _))
  · rcases hk with e | e | e | e | e | e
    · have e : k = w4.heap.size := e; omega
    · have e : k = sb2 := e; omega
    · have e : k = bm2 := e; omega
    · have e : k = cb2 := e; omega
    · have e : k = g2 := e; omega
    · exact (HR.out.lt k e).1
set_option maxRecDepth 100000 in
set_option maxHeartbeats 2000000 in
theorem lsame_yes {b' : Lb} (h : Lg w b s E) (h' : Lg w b' s E) (hN : b.N ≤ 1000000) : Calls Try.prog 20 #[.pointer (some ⟨b.lb, 0, none⟩), .pointer (some ⟨b'.lb, 0, none⟩)] w fun e w' => e = .returned (.bool true) ∧ Below w.heap.size w w' := by
  obtain ⟨A, c, _, _, hh, hc⟩ := h.log_at
  obtain ⟨A', c', _, _, hh', hc'⟩ := h'.log_at
  have hm : E.length ≤ 1000000 := Nat.le_trans h.few hN
  have hg := fun d os => h.below (below_regrown w d os)
  have hg' := fun d os => h'.below (below_regrown w d os)
  have K1 := fun d os => Calls.regrown_of (v := .bool true) ((ent_equal A A' c c' E E w.heap.size w.heap.size (grow (redrawn w d) os) (by omega) (hh.below (below_regrown w d os) (Nat.le_refl _)) (hh'.below (below_regrown w d os) (Nat.le_refl _))).mono fun e w' ⟨he, m, hw⟩ => ⟨by rw [he]; simp [sameL], by rw [hw]; exact ⟨rfl, rfl, rfl, Nat.le_refl _, fun _ _ => rfl⟩⟩)
  have K2 := fun d os => Calls.regrown_of (v := .bool true) ((ssame_any (hg d os).st (hg' d os).st).mono fun e w' ⟨r, he, hr, hb⟩ => ⟨by rw [he, hr.2 rfl], hb⟩)
  have K3 := fun d os => Calls.regrown_of (v := .bool true) ((csame_any (hg d os).ch (hg' d os).ch).mono fun e w' ⟨he, m, hw⟩ => ⟨by rw [he]; simp [sameL], by rw [hw]; exact ⟨rfl, rfl, rfl, Nat.le_refl _, fun _ _ => rfl⟩⟩)
  have c1 := fun d os => cell_regrown (show w.cell? ⟨b.lb, 1, none⟩ = some (.slice A E.length c) from hc 0) d os
  have c2 := fun d os => cell_regrown (show w.cell? ⟨b.lb, 2, none⟩ = some (.pointer (some ⟨b.sb, 0, none⟩)) from (h.cells 0).2.2.1) d os
  have c3 := fun d os => cell_regrown (show w.cell? ⟨b.lb, 3, none⟩ = some (.pointer (some ⟨b.cb, 0, none⟩)) from (h.cells 0).2.2.2) d os
  have d1 := fun d os => cell_regrown (show w.cell? ⟨b'.lb, 1, none⟩ = some (.slice A' E.length c') from hc' 0) d os
  have d2 := fun d os => cell_regrown (show w.cell? ⟨b'.lb, 2, none⟩ = some (.pointer (some ⟨b'.sb, 0, none⟩)) from (h'.cells 0).2.2.1) d os
  have d3 := fun d os => cell_regrown (show w.cell? ⟨b'.lb, 3, none⟩ = some (.pointer (some ⟨b'.cb, 0, none⟩)) from (h'.cells 0).2.2.2) d os
  obtain ⟨m, hmm⟩ : ∃ m, E.length = m := ⟨_, rfl⟩
  rw [hmm] at c1 d1 K1
  clear h h' hh hc hh' hc' hm hg hg' hmm hN
  go_enter Try.func20, Try.ntmps20
  go_wp2_with fail
  refine wp_region_quiet_below (by kernel_rfl) (by kernel_rfl) ?_
  refine wq_out ?_
  iterate 8 (refine wq_do (by kernel_rfl) (fun K hK => ?_); go_simp; refine hK _ ?_; clear hK K)
  refine wq_do (by kernel_rfl) (fun K hK => ?_)
  go_simp
  apply Exists.intro
  refine ⟨fun a => ?_, hK _ ?_⟩
  · exact K1 a.d a.os
  clear hK K
  iterate 9 (refine wq_do (by kernel_rfl) (fun K hK => ?_); go_simp; refine hK _ ?_; clear hK K)
  refine wq_do (by kernel_rfl) (fun K hK => ?_)
  go_simp
  apply Exists.intro
  refine ⟨fun a => ?_, hK _ ?_⟩
  · exact K2 a.d a.os
  clear hK K
  iterate 10 (refine wq_do (by kernel_rfl) (fun K hK => ?_); go_simp; refine hK _ ?_; clear hK K)
  refine wq_do (by kernel_rfl) (fun K hK => ?_)
  go_simp
  apply Exists.intro
  refine ⟨fun a => ?_, hK _ ?_⟩
  · exact K3 a.d a.os
  clear hK K
  iterate 2 (refine wq_do (by kernel_rfl) (fun K hK => ?_); go_simp; refine hK _ ?_; clear hK K)
  refine wq_nil ?_
  intro _ hw'
  obtain ⟨⟨dq, osq⟩, hw''⟩ := hw'
  subst hw''
  clear K1 K2 K3 c1 c2 c3 d1 d2 d3
  go_wp2_with fail
  go_ret
  exact ⟨rfl, below_regrown w dq osq⟩
end
set_option maxRecDepth 100000 in
set_option maxHeartbeats 2000000 in
/-- The example of the document. -/
theorem wakes12_any (w : World) : Calls Try.prog 23 #[] w fun e w' => e = .returned (.bool true) ∧ Below w.heap.size w w' := by
  obtain ⟨r, hr⟩ : ∃ r : Rq, r = ⟨0, 1, 1, 1, 5, 0⟩ := ⟨_, rfl⟩
  go_enter Try.func23, Try.ntmps23
  go_wp2_with fail
  refine (lx_new (n := 1) (by omega) (by omega) w w (Below.refl _ _)).mono ?_
  rintro e w1 ⟨b, rfl, hl, hN, hz, hb⟩
  have HL := Lib.hid hl
  have HN := Lib.hid hN
  clear hl hN hz hb
  have hst := fun w => run_storeCells_new (P := Try.prog) w 34 #[.int .i64 0, .int .i64 0, .int .i64 0, .int .i64 0, .int .i64 0, .int .i64 0] #[.int .i64 0, .int .i64 1, .int .i64 1, .int .i64 1, .int .i64 5, .int .i64 0] (by kernel_rfl) rfl (by simp [Value.oneCell'])
  go_wp2_with fail
  have hb1 : Below w1.heap.size w1 (w1.alloc (.cells #[.int .i64 0, .int .i64 1, .int .i64 1, .int .i64 1, .int .i64 5, .int .i64 0] 34)) := (Below.refl _ _).alloc (Nat.le_refl _) _
  have hs1 : (w1.alloc (.cells #[.int .i64 0, .int .i64 1, .int .i64 1, .int .i64 1, .int .i64 5, .int .i64 0] 34)).heap.size = w1.heap.size + 1 := by simp
  have hk1 := Blk.new w1 34 #[.int .i64 0, .int .i64 1, .int .i64 1, .int .i64 1, .int .i64 5, .int .i64 0]
  obtain ⟨w2, hw2⟩ : ∃ w2, w1.alloc (.cells #[.int .i64 0, .int .i64 1, .int .i64 1, .int .i64 1, .int .i64 5, .int .i64 0] 34) = w2 := ⟨_, rfl⟩
  rw [hw2] at hb1 hs1 hk1 ⊢
  have hb2 : Below w2.heap.size w2 (w2.alloc (.cells #[.int .i64 0, .int .i64 1, .int .i64 1, .int .i64 1, .int .i64 5, .int .i64 0] 34)) := (Below.refl _ _).alloc (Nat.le_refl _) _
  have hA : Has (w2.alloc (.cells #[.int .i64 0, .int .i64 1, .int .i64 1, .int .i64 1, .int .i64 5, .int .i64 0] 34)) (w2.heap.size + 1) (some ⟨w2.heap.size, 0, none⟩) (reqCells [r]) := by
    rw [hr]
    exact Has.fresh w2 #[.int .i64 0, .int .i64 1, .int .i64 1, .int .i64 1, .int .i64 5, .int .i64 0] 34
  have hlt : ∀ k, b.zone k → k < w1.heap.size := fun k hk => HL.out.lg.lt hk
  have hK2 := Blk.below hk1 hb2 hk1.lt
  have his : (Sc.new 1).is r = true := by rw [hr]; rfl
  have hran : (Sc.new 1).ran [r] = [⟨r, (Sc.new 1).res r⟩] := by
    show (Sc.new 1).ents r ++ [] = _
    rw [Sc.ents_yes his]; rfl
  have hst2 : ((Sc.new 1).run [r]).ran [r] = [] := (Sc.none_run [r] (Sc.stale [r] (Sc.new 1))).2
  have HR := Lib.hid hran
  have HS2 := Lib.hid hst2
  rw [← hs1]
  have KR := Lib.hid (lx_run ((HL.out.below hb1).below hb2) (c := 1) (n := 1) hA (fun ad e _ hz => by
    cases e
    have hz : b.zone w2.heap.size := hz
    have := hlt _ hz
    omega) rfl (by rw [HN.out]; omega))
  refine KR.out.mono ?_
  rintro e w3 ⟨v, b2, rfl, hR⟩
  obtain ⟨Av, cv, rfl, -, -⟩ := own_slice hR.row
  have hlen : ((Sc.new 1).ran [r]).length = 1 := by rw [HR.out]; rfl
  have hN2 : b2.N = 1 := by rw [hR.n, HN.out, hlen]
  have hK3 := hR.tn.blk hK2 (fun hz => by
    have := hlt _ hz
    omega)
  have hlb := hR.same
  have HL3 := Lib.hid hR.lx
  have HK3 := Lib.hid hK3
  have HN2 := Lib.hid hN2
  have HLb := Lib.hid hlb
  rw [hlen]
  have HZ3 := Lib.hid (show w1.heap.size < w3.heap.size from by have := hR.tn.size; have := hb2.size; omega)
  have HNz := Lib.hid (show ¬ b2.zone w1.heap.size from fun hz => by
    rcases hR.zone _ hz with h | h
    · have := hlt _ h; omega
    · have := hb2.size; omega)
  clear hR hK3 hlb hK2 hA hb1 hb2 hk1 KR his hran hst2 hN2 hlen hw2 hs1 hlt hst
  have t0 := HK3.out.cell 0
  have t1 := HK3.out.cell 1
  have t2 := HK3.out.cell 2
  have t3 := HK3.out.cell 3
  have t4 := HK3.out.cell 4
  have t5 := HK3.out.cell 5
  simp only [List.getElem?_toArray, List.getElem?_cons_zero, List.getElem?_cons_succ] at t0 t1 t2 t3 t4 t5
  go_wp2_with fail
  have hb4 : Below w3.heap.size w3 (w3.alloc (.cells #[.int .i64 0, .int .i64 1, .int .i64 1, .int .i64 1, .int .i64 5, .int .i64 0] 34)) := (Below.refl _ _).alloc (Nat.le_refl _) _
  have hA : Has (w3.alloc (.cells #[.int .i64 0, .int .i64 1, .int .i64 1, .int .i64 1, .int .i64 5, .int .i64 0] 34)) (w3.heap.size + 1) (some ⟨w3.heap.size, 0, none⟩) (reqCells [r]) := by
    rw [hr]
    exact Has.fresh w3 #[.int .i64 0, .int .i64 1, .int .i64 1, .int .i64 1, .int .i64 5, .int .i64 0] 34
  have hlt : ∀ k, b2.zone k → k < w3.heap.size := fun k hk => HL3.out.lg.lt hk
  have KR := Lib.hid (lx_run (HL3.out.below hb4) (c := 1) (n := 1) hA (fun ad e _ hz => by
    cases e
    have hz : b2.zone w3.heap.size := hz
    have := hlt _ hz
    omega) rfl (by rw [HN2.out]; omega))
  rw [HLb.out] at KR
  refine KR.out.mono ?_
  rintro e w4 ⟨v, b3, rfl, hR⟩
  obtain ⟨Av2, cv2, rfl, -, -⟩ := own_slice hR.row
  have hlb := hR.same
  have HL4 := Lib.hid hR.lx
  rw [HS2.out] at HL4 ⊢
  rw [HR.out] at HL4
  have HLb3 := Lib.hid (hlb.trans HLb.out)
  clear hR hlb hA hb4 KR t0 t1 t2 t3 t4 t5 hlt
  have KL := Lib.hid (llen_any HL4.out.lg)
  rw [HLb3.out] at KL
  go_wp2_with fail
  refine KL.out.mono ?_
  rintro e w5 ⟨rfl, rfl⟩
  go_wp2_with fail
  go_ret
  exact ⟨rfl, HL4.out.low⟩
end Go.Proofs.Ytpjcedilkahpiaa
