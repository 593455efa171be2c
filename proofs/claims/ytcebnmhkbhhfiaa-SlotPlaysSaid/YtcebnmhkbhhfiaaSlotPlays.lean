/- The statement SlotPlays: whatever the input, the law returns true, and each argument reads afterwards as it read before. Ahead of it: do at votes of nodes, both slots' states, the walk. -/
import Derived.Test.YtcebnmhkbhhfiaaSdAll
import Derived.Deep.RegionHeld3
import Derived.Test.YtcebnmhkbhhfiaaHeldLast2
import Derived.Test.YtcebnmhkbhhfiaaRows
import Derived.Test.YtcebnmhkbhhfiaaActs14
import Derived.ProofKit
import Derived.OpenShut
import Derived.ShutString
import Derived.ChangeOld
namespace Go.Proofs.Ytcebnmhkbhhfiaa
open Go.RowKit
set_option linter.unusedSimpArgs false

theorem one_end5 {R : Prop} {F P : Nat → World → Option Addr → Nat → Nat → Prop} (k : (∀ g w A n c, F g w A n c → P g w A n c) → R) (h : ∀ g w A n c, F g w A n c → P g w A n c) : R := k h
section
variable {w : World} {Y : Nat → Prop} {sb pb n0 : Nat} {v1 v2 : Value} {f : Int} {s : Sx} {x : Ac}
/-- The law's vote in new memory: behind the batch. -/
theorem vote_endA {w4 w5 w6 : World} {vb : Value} {n ab g : Nat} {A3 : Option Addr} {n3 c3 : Nat} (h : Pr w w4 Y sb v1 v2 pb f s s vb n ab x) (hP : BtPost w4.drew x A3 n3 c3 w5) (hw : w5.alloc (.cells #[.int .i64 x.nd, .int .i64 x.sg, .slice A3 n3 c3] 83) = w6) (hg : w5.heap.size = g) :
    Pr w w6 Y sb v1 v2 pb f s s vb n ab x ∧ Blk w6 g 83 #[.int .i64 x.nd, .int .i64 x.sg, .slice A3 n3 c3] ∧ DBat w6 (fun k => Y k ∨ vb.ownBlock = some k) A3 c3 (btS x) ∧ n3 = (btS x).length ∧ w4.heap.size ≤ g := by
  have hdr : Below w4.heap.size w4 w4.drew := ⟨rfl, rfl, rfl, Nat.le_refl _, fun _ _ => rfl⟩
  have hb : Below w5.heap.size w5 w6 := hw ▸ (Below.refl _ _).alloc (Nat.le_refl _) _
  have h1 := h.below hdr
  exact ⟨(h1.below hP.low).below hb, hg ▸ hw ▸ Blk.new w5 _ _, (h1.bat hP).below hb, hP.len, hg ▸ hP.low.size⟩
theorem Ds.newv {w4 w5 w6 : World} {Y : Nat → Prop} {g pb : Nat} {s : Sx} (h : Ds w4 Y pb s) (hg : w4.heap.size ≤ g) (hb : Below w4.heap.size w4 w5) (ht : Turn (fun k => k = g) w5 w6) : Ds w6 Y pb s := by
  have h1 : Ds w5 (fun k => Y k ∨ k = g) pb s := (h.mono (fun k hk hy => hy.elim id (fun e => by omega))).below hb
  obtain ⟨A, c, r1, r2, M1, M2, a, b, d, e⟩ := h1.mem
  have hp := h.lt
  have ht2 : Turn (fun k => Y k ∨ k = g) w5 w6 := ht.mono (fun _ _ e => Or.inr e)
  have h2 : Ds w6 (fun k => Y k ∨ k = g) pb s := ⟨A, c, r1, r2, M1, M2, ht.blk a (by omega), b.kept ht2, d.kept ht2, e.kept ht2⟩
  exact h2.mono (fun _ _ hy => Or.inl hy)
/-- The law's vote in new memory: ahead of the batch. -/
theorem vote_endB {w4 w5 w6 : World} {vb : Value} {n ab g : Nat} {A3 : Option Addr} {n3 c3 : Nat} (h : Pr w w4 Y sb v1 v2 pb f s s vb n ab x) (hP : BtPost (w4.alloc (.cells #[.int .i64 0, .int .i64 0, .slice none 0 0] 83)).drew x A3 n3 c3 w5)
    (hw : ((w5.setCell ⟨w4.heap.size, 0, none⟩ (.int .i64 x.nd)).setCell ⟨w4.heap.size, 1, none⟩ (.int .i64 x.sg)).setCell ⟨w4.heap.size, 2, none⟩ (.slice A3 n3 c3) = w6) (hg : w4.heap.size = g) :
    Pr w w6 Y sb v1 v2 pb f s s vb n ab x ∧ Blk w6 g 83 #[.int .i64 x.nd, .int .i64 x.sg, .slice A3 n3 c3] ∧ DBat w6 (fun k => Y k ∨ vb.ownBlock = some k) A3 c3 (btS x) ∧ n3 = (btS x).length ∧ w4.heap.size ≤ g := by
  have hz : Below w4.heap.size w4 (w4.alloc (.cells #[.int .i64 0, .int .i64 0, .slice none 0 0] 83)).drew := Below.trans ((Below.refl _ _).alloc (Nat.le_refl _) _) ⟨rfl, rfl, rfl, Nat.le_refl _, fun _ _ => rfl⟩
  have hzs : (w4.alloc (.cells #[.int .i64 0, .int .i64 0, .slice none 0 0] 83)).drew.heap.size = w4.heap.size + 1 := by show (w4.alloc _).heap.size = _; simp
  have hbz : Blk w5 g 83 #[.int .i64 0, .int .i64 0, .slice none 0 0] := hg ▸ ((Blk.new w4 83 #[.int .i64 0, .int .i64 0, .slice none 0 0]).drewN 1).below hP.low (by rw [hzs]; omega)
  have h45 : Below w4.heap.size w4 w5 := hz.trans (hP.low.mono hz.size)
  have ht : Turn (fun k => k = g) w5 w6 := by
    rw [← hw, hg]
    exact (((Turn.refl (fun k => k = g) w5).set_ ⟨g, 0, none⟩ _ rfl).set_ ⟨g, 1, none⟩ _ rfl).set_ ⟨g, 2, none⟩ _ rfl
  have hb6 : Blk w6 g 83 #[.int .i64 x.nd, .int .i64 x.sg, .slice A3 n3 c3] := by
    have := ((hbz.set_ 0 (.int .i64 x.nd)).set_ 1 (.int .i64 x.sg)).set_ 2 (.slice A3 n3 c3)
    rw [← hw, hg]
    exact this
  have h5 := h.below h45
  have hv : ∀ k, vb.ownBlock = some k → k < g := fun k hk => by have := (h.row.lt k hk).2; omega
  have hlw : w.heap.size ≤ g := by have := h.tn.size; omega
  refine ⟨⟨h5.sl.kept ht (fun k hk e => by have := h.sl.lt hk; omega) (fun u b hu k hk e => hu.off (e ▸ hbz) (by decide) hk), h.ds.newv (by omega) h45 ht, ht.own h5.row (fun k hk e => by have := hv k hk; omega), ?_, ht.blk h5.box (by have := h.box.lt; omega), h.ysz, h.yp, h.ylt, h.arg, h.aoff⟩, hb6, ?_, hP.len, by omega⟩
  · exact ⟨ht.os.trans h5.tn.os, ht.tape.trans h5.tn.tape, ht.output.trans h5.tn.output, Nat.le_trans h5.tn.size ht.size, fun k hk hn => (ht.block k (Nat.lt_of_lt_of_le hk h5.tn.size) (by omega)).trans (h5.tn.block k hk hn)⟩
  · have hd := (h.below hz).bat hP
    refine ⟨(has_apart hd.has ht (fun ad ha hl e => ?_)).more ht.size, hd.low, hd.nil, hd.off⟩
    rcases hP.at_ ad ha (req_ne hl) with ⟨q1, q2⟩ | q1
    · have := req_block h.arg q1 q2; omega
    · rw [hzs] at q1; omega
end
end Go.Proofs.Ytcebnmhkbhhfiaa
namespace Go.Proofs.Ytcebnmhkbhhfiaa
open Go.RowKit
set_option linter.unusedSimpArgs false

section
variable {w : World} {Y : Nat → Prop} {sb pb n0 : Nat} {v1 v2 : Value} {f : Int} {s : Sx} {x : Ac}
set_option maxRecDepth 100000 in
set_option maxHeartbeats 4000000 in
theorem do_k4 (h : DoIn w Y sb v1 v2 pb f s n0 x) {kk : Int} (hk : x.dd % 10 = kk) (hk1 : 1 ≤ kk ∧ kk ≤ 8) (hnd : 0 ≤ x.nd ∧ x.nd < (n0 : Int)) (hki : Hid (x.ki = 4)) :
    Calls Try.prog 8 #[.pointer (some ⟨sb, 0, none⟩), .pointer (some ⟨pb, 0, none⟩), .int .i64 f, .agg #[.int .i64 x.dd, .int .i64 x.ki, .int .i64 x.nd, .int .i64 x.sg, .int .i64 x.wh, .slice x.A x.l.length x.c]] w fun e w' => e = .returned (.bool true) ∧ DoPost w w' Y sb v1 v2 pb f (actS n0 x s) := by
  obtain ⟨b0, b1⟩ := wf_i64 h.dd
  have HW10 := Lib.hid (fun w => within_any x.dd 10 (by omega) (by omega) b0 b1 w)
  have HB1 := Lib.hid (show Below w.heap.size w (w.alloc (.cells #[.int .i64 x.dd, .int .i64 x.ki, .int .i64 x.nd, .int .i64 x.sg, .int .i64 x.wh, .slice x.A x.l.length x.c] 35)) from (Below.refl _ _).alloc (Nat.le_refl _) _)
  have HBx := Lib.hid (Blk.new w 35 #[.int .i64 x.dd, .int .i64 x.ki, .int .i64 x.nd, .int .i64 x.sg, .int .i64 x.wh, .slice x.A x.l.length x.c])
  have HBat := Lib.hid (fun (wz : World) (hx : Has wz wz.heap.size x.A (reqCells x.l)) => batch14_any hx h.le h.most h.nil h.wh)
  have HBt1 := Lib.hid (HBat.out _ ((h.arg.below HB1.out (Nat.le_refl _)).more HB1.out.size))
  have HIn := Lib.hid h
  obtain ⟨w1, hw1⟩ : ∃ w1, w.alloc (.cells #[.int .i64 x.dd, .int .i64 x.ki, .int .i64 x.nd, .int .i64 x.sg, .int .i64 x.wh, .slice x.A x.l.length x.c] 35) = w1 := ⟨_, rfl⟩
  obtain ⟨ab, hab⟩ : ∃ y, w.heap.size = y := ⟨_, rfl⟩
  have HAb := Lib.hid hab
  obtain ⟨xl, hxl⟩ : ∃ y, x.l.length = y := ⟨_, rfl⟩
  have HXl := Lib.hid hxl
  have hbx0 := HBx.out.cell 0
  have hbx1 := HBx.out.cell 1
  have hbx2 := HBx.out.cell 2
  have hbx3 := HBx.out.cell 3
  have hbx4 := HBx.out.cell 4
  have hbx5 := HBx.out.cell 5
  simp only [List.getElem?_toArray, List.getElem?_cons_zero, List.getElem?_cons_succ] at hbx0 hbx1 hbx2 hbx3 hbx4 hbx5
  rw [hk] at HW10
  rw [hw1] at HB1 HBt1 HBx hbx0 hbx1 hbx2 hbx3 hbx4 hbx5
  rw [hab] at HBx hbx0 hbx1 hbx2 hbx3 hbx4 hbx5
  rw [hxl] at HBt1 HBat hbx5 hw1 ⊢
  clear h b0 b1 hxl
  go_enter Try.func8, Try.ntmps8
  go_wp2_with fail
  refine HBt1.out.mono ?_
  rintro e w2 ⟨A2, n, c2, rfl, hP2⟩
  have HP2 := Lib.hid hP2
  clear hw1 hab hP2 hbx0 hbx1 hbx2 hbx3 hbx4 hbx5
  have hn3 : n ≤ 3 := HP2.out.short
  go_wp2_with fail
  refine (mcopy_reqs A2 c2 n w2.heap.size (btS x) w2 HP2.out.len.symm (by omega) HP2.out.has HP2.out.nil).mono ?_
  rintro e w3 ⟨vb, rfl, ho3, hb3⟩
  have hlow3 : Below w.heap.size w w3 := (HB1.out.trans (HP2.out.low.mono HB1.out.size)).trans (hb3.mono (Nat.le_trans HB1.out.size HP2.out.low.size))
  have HPr := Lib.hid (HIn.out.start (Nat.le_trans HB1.out.size HP2.out.low.size) ho3 hlow3 ((HBx.out.below HP2.out.low HBx.out.lt).below hb3 (Nat.lt_of_lt_of_le HBx.out.lt HP2.out.low.size)))
  obtain ⟨Ab, cb, rfl, -, -⟩ := own_slice ho3
  clear ho3 hb3 hlow3 HP2 HBt1 HB1 HBx
  have HAct := Lib.hid (show actS n0 x s = (s.vote x.ki x.nd x.sg (btS x)).2 from by unfold actS; rw [hk, if_neg (by omega), if_pos (by omega)])
  have hlen := (show (btS x).length = n from by have := HPr.out.row.1; rw [reqCells_len] at this; omega)
  have HLn := Lib.hid hlen
  have hkk : (kk == 0) = false := by simp; omega
  have hk9 : kk < 9 := by omega
  clear hk hlen
  have HNo := Lib.hid (fun (w : World) => (show Calls Try.prog 29 #[.int .i64 f] w fun e w' => e = .returned (.int .i64 (n0 : Int)) ∧ w' = w from by
    have hf1 := HIn.out.sl.f1
    have hf4 := HIn.out.sl.f4
    have hn1 := HIn.out.sl.n1
    have := rnodes_any f w
    rw [nodesS_in hf1 hf4, ← hn1, HIn.out.n0] at this
    exact this.mono fun _ _ he => ⟨he.1, he.2.symm⟩))
  have d0 := HPr.out.box.cell 0
  have d1 := HPr.out.box.cell 1
  have d2 := HPr.out.box.cell 2
  have d3 := HPr.out.box.cell 3
  have d4 := HPr.out.box.cell 4
  have d5 := HPr.out.box.cell 5
  simp only [List.getElem?_toArray, List.getElem?_cons_zero, List.getElem?_cons_succ] at d0 d1 d2 d3 d4 d5
  rw [HXl.out] at d5
  have HBq := Lib.hid (fun (m : Nat) => (HPr.out.below (w6 := w3.drewN m) ⟨rfl, rfl, rfl, Nat.le_refl _, fun _ _ => rfl⟩))
  have y2 := fun (m : Nat) => (show (w3.drewN m).cell? ⟨ab, 2, none⟩ = some (.int .i64 x.nd) from d2)
  go_wp2_with fail
  refine (HW10.out _).mono ?_
  rintro e wq ⟨rfl, rfl⟩
  go_wp2_with fail
  have hg1 : decide (0 ≤ x.nd) = true := decide_eq_true (by omega)
  have hg2 : decide (x.nd < (n0 : Int)) = true := decide_eq_true (by omega)
  obtain ⟨kn, hkn⟩ := Int.eq_ofNat_of_zero_le hnd.1
  have HNd := Lib.hid (And.intro hkn hnd)
  clear hnd hkn
  go_quiet ((go_at_call 29; exact Calls.quiet_of_same (HNo.out _)))
  have HPr2 := HBq.out nq
  obtain ⟨w4, hw4⟩ : ∃ y, w3.drewN nq = y := ⟨_, rfl⟩
  rw [hw4] at HPr2 ⊢
  have HPr2 := Lib.hid HPr2
  clear hw4 d0 d1 d2 d3 d4 d5 y2 HBq
  have HZ := Lib.hid (show Below w4.heap.size w4 (w4.alloc (.cells #[.int .i64 0, .int .i64 0, .slice none 0 0] 83)) from (Below.refl _ _).alloc (Nat.le_refl _) _)
  have HPz := Lib.hid (HPr2.out.below HZ.out)
  have HZb := Lib.hid (Blk.new w4 83 #[.int .i64 0, .int .i64 0, .slice none 0 0])
  have hdr : Below w4.heap.size w4 w4.drew := ⟨rfl, rfl, rfl, Nat.le_refl _, fun _ _ => rfl⟩
  have KA := Lib.hid (HBat.out w4.drew (HPr2.out.below hdr).arg5)
  have KB := Lib.hid (HBat.out (w4.alloc (.cells #[.int .i64 0, .int .i64 0, .slice none 0 0] 83)).drew (HPz.out.below (w6 := (w4.alloc (.cells #[.int .i64 0, .int .i64 0, .slice none 0 0] 83)).drew) ⟨rfl, rfl, rfl, Nat.le_refl _, fun _ _ => rfl⟩).arg5)
  have HSw := Lib.hid (show ab < w4.heap.size from HPr2.out.box.lt)
  have d0 := HPr2.out.box.cell 0
  have d1 := HPr2.out.box.cell 1
  have d2 := HPr2.out.box.cell 2
  have d3 := HPr2.out.box.cell 3
  have d4 := HPr2.out.box.cell 4
  have d5 := HPr2.out.box.cell 5
  simp only [List.getElem?_toArray, List.getElem?_cons_zero, List.getElem?_cons_succ] at d0 d1 d2 d3 d4 d5
  rw [HXl.out] at d5
  have m0 := HPz.out.box.cell 0
  have m1 := HPz.out.box.cell 1
  have m2 := HPz.out.box.cell 2
  have m3 := HPz.out.box.cell 3
  have m4 := HPz.out.box.cell 4
  have m5 := HPz.out.box.cell 5
  simp only [List.getElem?_toArray, List.getElem?_cons_zero, List.getElem?_cons_succ] at m0 m1 m2 m3 m4 m5
  rw [HXl.out] at m5
  clear hdr
  have HBoxX := Lib.hid (show Blk w4 ab 35 #[.int .i64 x.dd, .int .i64 x.ki, .int .i64 x.nd, .int .i64 x.sg, .int .i64 x.wh, .slice x.A xl x.c] from HXl.out ▸ HPr2.out.box)
  go_wp2_with fail
  apply one_end5 (F := fun g w6 A3 n3 c3 => Pr w w6 Y sb v1 v2 pb f s s (.slice Ab n cb) n ab x ∧ Blk w6 g 83 #[.int .i64 x.nd, .int .i64 x.sg, .slice A3 n3 c3] ∧ DBat w6 (fun k => Y k ∨ (Value.slice Ab n cb).ownBlock = some k) A3 c3 (btS x) ∧ n3 = (btS x).length ∧ w4.heap.size ≤ g)
  · intro hfin
    have HFin := Lib.hid hfin
    clear hfin
    have HSx := Lib.hid (show Blk w4.drew ab 35 #[.int .i64 x.dd, .int .i64 x.ki, .int .i64 x.nd, .int .i64 x.sg, .int .i64 x.wh, .slice x.A xl x.c] from HBoxX.out.drewN 1)
    refine wp_region_held_drew (S := fun w' => Blk w' ab 35 #[.int .i64 x.dd, .int .i64 x.ki, .int .i64 x.nd, .int .i64 x.sg, .int .i64 x.wh, .slice x.A xl x.c]) (by kernel_rfl) (HSx.out) (fun hHeld => ?_)
    refine wpAnyH_take (i := 0) (v := ?_) rfl (by kernel_rfl) (by kernel_rfl) (by kernel_rfl) (fun _ _ _ h => h) (Or.inl ⟨by rfl, ?_⟩) (by assumption) ?_
    rotate_left
    · (intro w hSw; (try dsimp only at hSw); have q0 := hSw.cell 0; have q1 := hSw.cell 1; have q2 := hSw.cell 2; have q3 := hSw.cell 3; have q4 := hSw.cell 4; have q5 := hSw.cell 5; simp only [List.getElem?_toArray, List.getElem?_cons_zero, List.getElem?_cons_succ] at q0 q1 q2 q3 q4 q5; first | (go_simp; done) | (go_simp; with_reducible rfl))
    try simp only [Act.put, List.getElem_toArray, List.getElem_cons_zero, List.getElem_cons_succ, List.setIfInBounds_toArray, List.set_cons_zero, List.set_cons_succ]
    refine wpAnyH_take (i := 1) (v := ?_) rfl (by kernel_rfl) (by kernel_rfl) (by kernel_rfl) (fun _ _ _ h => h) (Or.inl ⟨by rfl, ?_⟩) (by assumption) ?_
    rotate_left
    · (intro w hSw; (try dsimp only at hSw); have q0 := hSw.cell 0; have q1 := hSw.cell 1; have q2 := hSw.cell 2; have q3 := hSw.cell 3; have q4 := hSw.cell 4; have q5 := hSw.cell 5; simp only [List.getElem?_toArray, List.getElem?_cons_zero, List.getElem?_cons_succ] at q0 q1 q2 q3 q4 q5; first | (go_simp; done) | (go_simp; with_reducible rfl))
    try simp only [Act.put, List.getElem_toArray, List.getElem_cons_zero, List.getElem_cons_succ, List.setIfInBounds_toArray, List.set_cons_zero, List.set_cons_succ]
    refine wpAnyH_take (i := 2) (v := ?_) rfl (by kernel_rfl) (by kernel_rfl) (by kernel_rfl) (fun _ _ _ h => h) (Or.inl ⟨by rfl, ?_⟩) (by assumption) ?_
    rotate_left
    · (intro w hSw; (try dsimp only at hSw); have q0 := hSw.cell 0; have q1 := hSw.cell 1; have q2 := hSw.cell 2; have q3 := hSw.cell 3; have q4 := hSw.cell 4; have q5 := hSw.cell 5; simp only [List.getElem?_toArray, List.getElem?_cons_zero, List.getElem?_cons_succ] at q0 q1 q2 q3 q4 q5; first | (go_simp; done) | (go_simp; with_reducible rfl))
    try simp only [Act.put, List.getElem_toArray, List.getElem_cons_zero, List.getElem_cons_succ, List.setIfInBounds_toArray, List.set_cons_zero, List.set_cons_succ]
    refine wpAnyH_take (i := 3) (v := ?_) rfl (by kernel_rfl) (by kernel_rfl) (by kernel_rfl) (fun _ _ _ h => h) (Or.inl ⟨by rfl, ?_⟩) (by assumption) ?_
    rotate_left
    · (intro w hSw; (try dsimp only at hSw); have q0 := hSw.cell 0; have q1 := hSw.cell 1; have q2 := hSw.cell 2; have q3 := hSw.cell 3; have q4 := hSw.cell 4; have q5 := hSw.cell 5; simp only [List.getElem?_toArray, List.getElem?_cons_zero, List.getElem?_cons_succ] at q0 q1 q2 q3 q4 q5; first | (go_simp; done) | (go_simp; with_reducible rfl))
    try simp only [Act.put, List.getElem_toArray, List.getElem_cons_zero, List.getElem_cons_succ, List.setIfInBounds_toArray, List.set_cons_zero, List.set_cons_succ]
    refine wpAnyH_take (i := 4) (v := ?_) rfl (by kernel_rfl) (by kernel_rfl) (by kernel_rfl) (fun _ _ _ h => h) (Or.inl ⟨by rfl, ?_⟩) (by assumption) ?_
    rotate_left
    · (intro w hSw; (try dsimp only at hSw); have q0 := hSw.cell 0; have q1 := hSw.cell 1; have q2 := hSw.cell 2; have q3 := hSw.cell 3; have q4 := hSw.cell 4; have q5 := hSw.cell 5; simp only [List.getElem?_toArray, List.getElem?_cons_zero, List.getElem?_cons_succ] at q0 q1 q2 q3 q4 q5; first | (go_simp; done) | (go_simp; with_reducible rfl))
    try simp only [Act.put, List.getElem_toArray, List.getElem_cons_zero, List.getElem_cons_succ, List.setIfInBounds_toArray, List.set_cons_zero, List.set_cons_succ]
    refine wpAnyH_ready (rs := [5, 7]) (by kernel_rfl) (by simp) ?_
    refine AllReadyH.cons rfl (fun K hK => ?_) (AllReadyH.cons rfl (fun K hK => ?_) AllReadyH.nil)
    · go_simp
      go_at_call 28
      refine KA.out.mono ?_
      rintro e w5 ⟨A3, n3, c3, rfl, hP⟩
      have HPa := Lib.hid hP
      refine hK.out _ _ (HSx.out.below hP.low HSx.out.lt) (fun hHeld => ?_)
      clear hK K
      try simp only [Act.put, List.getElem_toArray, List.getElem_cons_zero, List.getElem_cons_succ, List.setIfInBounds_toArray, List.set_cons_zero, List.set_cons_succ]
      refine wpAnyH_take (i := 6) (v := ?_) rfl (by kernel_rfl) (by kernel_rfl) (by kernel_rfl) (fun _ _ _ h => h) (Or.inl ⟨by rfl, ?_⟩) (by assumption) ?_
      rotate_left
      · (intro w hSw; first | (go_simp; done) | (go_simp; with_reducible rfl))
      try simp only [Act.put, List.getElem_toArray, List.getElem_cons_zero, List.getElem_cons_succ, List.setIfInBounds_toArray, List.set_cons_zero, List.set_cons_succ]
      refine wpAnyH_ready (rs := [7]) (by kernel_rfl) (by simp) ?_
      refine AllReadyH.cons rfl (fun K hK => ?_) AllReadyH.nil
      go_simp
      refine hK.out _ _ ((HSx.out.below hP.low HSx.out.lt).alloc _) (fun hHeld => ?_)
      clear hK K
      try simp only [Act.put, List.getElem_toArray, List.getElem_cons_zero, List.getElem_cons_succ, List.setIfInBounds_toArray, List.set_cons_zero, List.set_cons_succ]
      refine wpAnyH_ready (rs := [8]) (by kernel_rfl) (by simp) ?_
      refine AllReadyH.cons rfl (fun K hK => ?_) AllReadyH.nil
      go_simp
      refine hK.out _ _ ((HSx.out.below HPa.out.low HSx.out.lt).alloc _) (fun hHeld => ?_)
      clear hK K
      try simp only [Act.put, List.getElem_toArray, List.getElem_cons_zero, List.getElem_cons_succ, List.setIfInBounds_toArray, List.set_cons_zero, List.set_cons_succ]
      refine wpAnyH_done (by kernel_rfl) ?_ _
      obtain ⟨w6, hw6⟩ : ∃ w6, w5.alloc (.cells #[.int .i64 x.nd, .int .i64 x.sg, .slice A3 n3 c3] 83) = w6 := ⟨_, rfl⟩
      obtain ⟨g, hg⟩ : ∃ g, w5.heap.size = g := ⟨_, rfl⟩
      have hend := vote_endA HPr2.out HPa.out hw6 hg
      rw [hw6, hg]
      exact HFin.out g w6 A3 n3 c3 hend
    · go_simp
      refine hK.out _ _ ((HBoxX.out.alloc _).drewN 1) (fun hHeld => ?_)
      clear hK K
      try simp only [Act.put, List.getElem_toArray, List.getElem_cons_zero, List.getElem_cons_succ, List.setIfInBounds_toArray, List.set_cons_zero, List.set_cons_succ]
      refine wpAnyH_ready (rs := [5]) (by kernel_rfl) (by simp) ?_
      refine AllReadyH.cons rfl (fun K hK => ?_) AllReadyH.nil
      go_simp
      go_at_call 28
      refine KB.out.mono ?_
      rintro e w5 ⟨A3, n3, c3, rfl, hP⟩
      have HPb := Lib.hid hP
      have HSz := Lib.hid (((HBoxX.out.alloc (.cells #[.int .i64 0, .int .i64 0, .slice none 0 0] 83)).drewN 1).below hP.low ((HBoxX.out.alloc (.cells #[.int .i64 0, .int .i64 0, .slice none 0 0] 83)).drewN 1).lt)
      refine hK.out _ _ HSz.out (fun hHeld => ?_)
      clear hK K
      try simp only [Act.put, List.getElem_toArray, List.getElem_cons_zero, List.getElem_cons_succ, List.setIfInBounds_toArray, List.set_cons_zero, List.set_cons_succ]
      refine wpAnyH_take (i := 6) (v := ?_) rfl (by kernel_rfl) (by kernel_rfl) (by kernel_rfl) (fun _ _ _ h => h) (Or.inl ⟨by rfl, ?_⟩) (by assumption) ?_
      rotate_left
      · (intro w hSw; first | (go_simp; done) | (go_simp; with_reducible rfl))
      try simp only [Act.put, List.getElem_toArray, List.getElem_cons_zero, List.getElem_cons_succ, List.setIfInBounds_toArray, List.set_cons_zero, List.set_cons_succ]
      refine wpAnyH_ready (rs := [8]) (by kernel_rfl) (by simp) ?_
      refine AllReadyH.cons rfl (fun K hK => ?_) AllReadyH.nil
      have hz3 := (HZb.out.drewN 1).below HPb.out.low HZb.out.lt
      have y0 := hz3.cell 0
      have y1 := hz3.cell 1
      have y2 := hz3.cell 2
      have fz := fun i => hz3.frozen i
      simp only [List.getElem?_toArray, List.getElem?_cons_zero, List.getElem?_cons_succ] at y0 y1 y2
      go_simp
      have hnab : ab ≠ w4.heap.size := by have := HPr2.out.box.lt; omega
      refine hK.out _ _ (((HSz.out.far hnab _).far hnab _).far hnab _) (fun hHeld => ?_)
      clear hK K
      try simp only [Act.put, List.getElem_toArray, List.getElem_cons_zero, List.getElem_cons_succ, List.setIfInBounds_toArray, List.set_cons_zero, List.set_cons_succ]
      refine wpAnyH_done (by kernel_rfl) ?_ _
      obtain ⟨w6, hw6⟩ : ∃ w6, ((w5.setCell ⟨w4.heap.size, 0, none⟩ (.int .i64 x.nd)).setCell ⟨w4.heap.size, 1, none⟩ (.int .i64 x.sg)).setCell ⟨w4.heap.size, 2, none⟩ (.slice A3 n3 c3) = w6 := ⟨_, rfl⟩
      obtain ⟨g, hg⟩ : ∃ g, w4.heap.size = g := ⟨_, rfl⟩
      have hend := vote_endB HPr2.out HPb.out hw6 hg
      rw [hw6, hg]
      exact HFin.out g w6 A3 n3 c3 hend
  · intro g w6 A3 n3 c3 hf
    obtain ⟨hp6, hb6, hd6, hn3', hg6⟩ := hf
    have HP6 := Lib.hid hp6
    have HG := Lib.hid hb6
    have HDb := Lib.hid hd6
    have HN3 := Lib.hid hn3'
    have d1 := HP6.out.box.cell 1
    simp only [List.getElem?_toArray, List.getElem?_cons_zero, List.getElem?_cons_succ] at d1
    clear hp6 hb6 hd6 hn3' hg6 m0 m1 m2 m3 m4 m5 HBoxX HZ HPz HZb KA KB HSw HPr2 HPr d0 d2 d3 d4 d5 hg1 hg2
    have g4 : (x.ki == 4) = true := by rw [hki.out]; rfl
    have g45 : (x.ki == 5) = false := by rw [hki.out]; rfl
    obtain ⟨A0, c0, r1, r2, M1, M2, p1, p2, p3, p4⟩ := HP6.out.ds.mem
    have HAdd := Lib.hid (radd_any (w := w6.drew) (k := kn) (sg := x.sg) (n := n3) (p3.below (⟨rfl, rfl, rfl, Nat.le_refl _, fun _ _ => rfl⟩ : Below w6.heap.size w6 w6.drew)) (by have h1 := HIn.out.sl.n1; have h2 := HIn.out.sl.n2; have h3 := HIn.out.sl.f4; omega) (by have h1 := HIn.out.sl.n1; have h2 := HIn.out.sl.n2; have h3 := HIn.out.n0; have h4 := HNd.out; omega) (HDb.out.below (⟨rfl, rfl, rfl, Nat.le_refl _, fun _ _ => rfl⟩ : Below w6.heap.size w6 w6.drew)) HN3.out.symm (fun k hk => by
      show k < w6.heap.size
      rcases hk with hk | hk
      · have := HIn.out.ylt k hk; have := HP6.out.tn.size; omega
      · exact (HP6.out.row.lt k hk).2))
    rw [← HNd.out.1] at HAdd
    have HRows := Lib.hid (And.intro p1 (And.intro p2 (And.intro p3 p4)))
    obtain ⟨B1, k1, rfl, -, -⟩ := own_slice p3.own
    obtain ⟨B2, k2, rfl, -, -⟩ := own_slice p4.own
    obtain ⟨nP, hnP⟩ : ∃ y, (dvs 0 s.P).length = y := ⟨_, rfl⟩
    obtain ⟨nC, hnC⟩ : ∃ y, (dvs 0 s.C).length = y := ⟨_, rfl⟩
    obtain ⟨bo, hbo⟩ : ∃ y, s.ch.isSome = y := ⟨_, rfl⟩
    obtain ⟨l0, hl0⟩ : ∃ y, (s.ch.getD []).length = y := ⟨_, rfl⟩
    rw [hnP, hnC, hbo, hl0] at p1
    rw [hnP] at HAdd
    have HSb := Lib.hid p1
    have z2 := p1.cell 2
    simp only [List.getElem?_toArray, List.getElem?_cons_zero, List.getElem?_cons_succ] at z2
    clear p1 p2 p3 p4
    obtain ⟨vt, hvt⟩ : ∃ y, votS s.P x.nd x.sg (btS x) = y := ⟨_, rfl⟩
    obtain ⟨mb, L9⟩ := vt
    rw [hvt] at HAdd
    have HVt := Lib.hid hvt
    have hS6 : (w6.drew.cell? ⟨pb, 2, none⟩ = some (.slice B1 nP k1) ∧ w6.drew.cell? ⟨g, 0, none⟩ = some (.int .i64 x.nd) ∧ w6.drew.cell? ⟨g, 1, none⟩ = some (.int .i64 x.sg) ∧ w6.drew.cell? ⟨g, 2, none⟩ = some (.slice A3 n3 c3)) := ⟨HSb.out.cell 2, HG.out.cell 0, HG.out.cell 1, HG.out.cell 2⟩
    clear z2 hvt hnP hnC hbo hl0
    go_wp2_with fail
    refine wpM_region (S := fun w' => w'.cell? ⟨pb, 2, none⟩ = some (.slice B1 nP k1) ∧ w'.cell? ⟨g, 0, none⟩ = some (.int .i64 x.nd) ∧ w'.cell? ⟨g, 1, none⟩ = some (.int .i64 x.sg) ∧ w'.cell? ⟨g, 2, none⟩ = some (.slice A3 n3 c3)) (z := [0, 1, 2, 3, 7, 8, 9, 10, 11, 12, 13]) (by kernel_rfl) rfl rfl hS6 (fun hHeld => ?_)
    refine wpM_pure (i := 0) (v := ?_) rfl (by kernel_rfl) (by kernel_rfl) (by kernel_rfl) (by kernel_rfl) (fun _ _ _ h => h) (Or.inl ⟨by rfl, ?_⟩) ?_
    rotate_left
    · (intro w hSw; first | (go_simp; done) | (go_simp; with_reducible rfl))
    try simp only [Act.put, List.getElem_toArray, List.getElem_cons_zero, List.getElem_cons_succ, List.setIfInBounds_toArray, List.set_cons_zero, List.set_cons_succ]
    refine wpM_pure (i := 1) (v := ?_) rfl (by kernel_rfl) (by kernel_rfl) (by kernel_rfl) (by kernel_rfl) (fun _ _ _ h => h) (Or.inl ⟨by rfl, ?_⟩) ?_
    rotate_left
    · (intro w hSw; first | (go_simp; done) | (go_simp; with_reducible rfl))
    try simp only [Act.put, List.getElem_toArray, List.getElem_cons_zero, List.getElem_cons_succ, List.setIfInBounds_toArray, List.set_cons_zero, List.set_cons_succ]
    refine wpM_pure (i := 2) (v := ?_) rfl (by kernel_rfl) (by kernel_rfl) (by kernel_rfl) (by kernel_rfl) (fun _ _ _ h => h) (Or.inl ⟨by rfl, ?_⟩) ?_
    rotate_left
    · (intro w hSw; first | (go_simp; done) | (go_simp; with_reducible rfl))
    try simp only [Act.put, List.getElem_toArray, List.getElem_cons_zero, List.getElem_cons_succ, List.setIfInBounds_toArray, List.set_cons_zero, List.set_cons_succ]
    refine wpM_pure (i := 3) (v := ?_) rfl (by kernel_rfl) (by kernel_rfl) (by kernel_rfl) (by kernel_rfl) (fun _ _ _ h => h) (Or.inl ⟨by rfl, ?_⟩) ?_
    rotate_left
    · (intro w hSw; first | (go_simp; done) | (go_simp; with_reducible rfl))
    try simp only [Act.put, List.getElem_toArray, List.getElem_cons_zero, List.getElem_cons_succ, List.setIfInBounds_toArray, List.set_cons_zero, List.set_cons_succ]
    refine wpM_take (ps := [[], [6], [7, 6]]) (i := 4) (v := ?_) rfl (by kernel_rfl) (by kernel_rfl) (by kernel_rfl) (by kernel_rfl) (by kernel_rfl) (fun _ _ _ h => h) (Or.inl ⟨by rfl, ?_⟩) (by assumption) ?_
    rotate_left
    · (intro w hSw; obtain ⟨q0, q1, q2, q3⟩ := hSw; first | (go_simp; done) | (go_simp; with_reducible rfl))
    try simp only [Act.put, List.getElem_toArray, List.getElem_cons_zero, List.getElem_cons_succ, List.setIfInBounds_toArray, List.set_cons_zero, List.set_cons_succ]
    refine wpM_take (ps := [[], [6], [7, 6]]) (i := 5) (v := ?_) rfl (by kernel_rfl) (by kernel_rfl) (by kernel_rfl) (by kernel_rfl) (by kernel_rfl) (fun _ _ _ h => h) (Or.inl ⟨by rfl, ?_⟩) (by assumption) ?_
    rotate_left
    · (intro w hSw; obtain ⟨q0, q1, q2, q3⟩ := hSw; first | (go_simp; done) | (go_simp; with_reducible rfl))
    try simp only [Act.put, List.getElem_toArray, List.getElem_cons_zero, List.getElem_cons_succ, List.setIfInBounds_toArray, List.set_cons_zero, List.set_cons_succ]
    refine wpM_ready (rs := [6]) (by kernel_rfl) (by simp) ?_
    refine AllM.cons rfl (fun K hK => ?_) AllM.nil
    go_simp
    go_at_call 30
    refine HAdd.out.mono ?_
    rintro e w7 ⟨u7, M7, rfl, hr7, hb7⟩
    have hlow7 : Below w6.heap.size w6 w7 := Below.trans (⟨rfl, rfl, rfl, Nat.le_refl _, fun _ _ => rfl⟩ : Below w6.heap.size w6 w6.drew) hb7
    have HB7 := Lib.hid hlow7
    have HR7 := Lib.hid hr7
    have hsb7 := HSb.out.below hlow7 HSb.out.lt
    have hg7 := HG.out.below hlow7 HG.out.lt
    have hS7 : (w7.cell? ⟨pb, 2, none⟩ = some (.slice B1 nP k1) ∧ w7.cell? ⟨g, 0, none⟩ = some (.int .i64 x.nd) ∧ w7.cell? ⟨g, 1, none⟩ = some (.int .i64 x.sg) ∧ w7.cell? ⟨g, 2, none⟩ = some (.slice A3 n3 c3)) := ⟨hsb7.cell 2, hg7.cell 0, hg7.cell 1, hg7.cell 2⟩
    obtain ⟨A7, c7, rfl, -, -⟩ := own_slice hr7.own
    have y2 := hsb7.cell 2
    have f2 := hsb7.frozen 2
    simp only [List.getElem?_toArray, List.getElem?_cons_zero, List.getElem?_cons_succ] at y2
    clear hr7 hb7 hlow7 hsb7 hg7
    refine hK.out _ _ (fun _ => hS7) (fun hHeld => ?_)
    clear hK K
    try simp only [Act.put, List.getElem_toArray, List.getElem_cons_zero, List.getElem_cons_succ, List.setIfInBounds_toArray, List.set_cons_zero, List.set_cons_succ]
    refine wpM_pure (i := 7) (v := ?_) rfl (by kernel_rfl) (by kernel_rfl) (by kernel_rfl) (by kernel_rfl) (fun _ _ _ h => h) (Or.inl ⟨by rfl, ?_⟩) ?_
    rotate_left
    · (intro w hSw; first | (go_simp; done) | (go_simp; with_reducible rfl))
    try simp only [Act.put, List.getElem_toArray, List.getElem_cons_zero, List.getElem_cons_succ, List.setIfInBounds_toArray, List.set_cons_zero, List.set_cons_succ]
    refine wpM_pure (i := 8) (v := ?_) rfl (by kernel_rfl) (by kernel_rfl) (by kernel_rfl) (by kernel_rfl) (fun _ _ _ h => h) (Or.inl ⟨by rfl, ?_⟩) ?_
    rotate_left
    · (intro w hSw; first | (go_simp; done) | (go_simp; with_reducible rfl))
    try simp only [Act.put, List.getElem_toArray, List.getElem_cons_zero, List.getElem_cons_succ, List.setIfInBounds_toArray, List.set_cons_zero, List.set_cons_succ]
    refine wpM_pure (i := 9) (v := ?_) rfl (by kernel_rfl) (by kernel_rfl) (by kernel_rfl) (by kernel_rfl) (fun _ _ _ h => h) (Or.inl ⟨by rfl, ?_⟩) ?_
    rotate_left
    · (intro w hSw; first | (go_simp; done) | (go_simp; with_reducible rfl))
    try simp only [Act.put, List.getElem_toArray, List.getElem_cons_zero, List.getElem_cons_succ, List.setIfInBounds_toArray, List.set_cons_zero, List.set_cons_succ]
    refine wpM_pure (i := 10) (v := ?_) rfl (by kernel_rfl) (by kernel_rfl) (by kernel_rfl) (by kernel_rfl) (fun _ _ _ h => h) (Or.inl ⟨by rfl, ?_⟩) ?_
    rotate_left
    · (intro w hSw; first | (go_simp; done) | (go_simp; with_reducible rfl))
    try simp only [Act.put, List.getElem_toArray, List.getElem_cons_zero, List.getElem_cons_succ, List.setIfInBounds_toArray, List.set_cons_zero, List.set_cons_succ]
    refine wpM_pure (i := 11) (v := ?_) rfl (by kernel_rfl) (by kernel_rfl) (by kernel_rfl) (by kernel_rfl) (fun _ _ _ h => h) (Or.inl ⟨by rfl, ?_⟩) ?_
    rotate_left
    · (intro w hSw; first | (go_simp; done) | (go_simp; with_reducible rfl))
    try simp only [Act.put, List.getElem_toArray, List.getElem_cons_zero, List.getElem_cons_succ, List.setIfInBounds_toArray, List.set_cons_zero, List.set_cons_succ]
    refine wpM_ready (rs := [12]) (by kernel_rfl) (by simp) ?_
    refine AllM.cons rfl (fun K hK => ?_) AllM.nil
    go_simp
    refine hK.out _ _ (fun h => absurd h (by decide)) (fun hHeld => ?_)
    clear hK K
    try simp only [Act.put, List.getElem_toArray, List.getElem_cons_zero, List.getElem_cons_succ, List.setIfInBounds_toArray, List.set_cons_zero, List.set_cons_succ]
    refine wpM_pure (i := 13) (v := ?_) rfl (by kernel_rfl) (by kernel_rfl) (by kernel_rfl) (by kernel_rfl) (fun _ _ _ h => h) (Or.inl ⟨by rfl, ?_⟩) ?_
    rotate_left
    · (intro w hSw; first | (go_simp; done) | (go_simp; with_reducible rfl))
    try simp only [Act.put, List.getElem_toArray, List.getElem_cons_zero, List.getElem_cons_succ, List.setIfInBounds_toArray, List.set_cons_zero, List.set_cons_succ]
    refine wpM_done (by kernel_rfl) ?_ _
    have HVS := Lib.hid (show s.vote x.ki x.nd x.sg (btS x) = (mb, ⟨s.ch, L9, s.C⟩) from by unfold Sx.vote; rw [if_pos hki.out]; rw [HVt.out])
    have HPn := Lib.hid (show Pr w (w7.setCell ⟨pb, 2, none⟩ (.slice A7 (dvs 0 L9).length c7)) Y sb v1 v2 pb f s (⟨s.ch, L9, s.C⟩) (.slice Ab n cb) n ab x from by
      have h7 := HP6.out.below HB7.out
      have ht : Turn (fun k => k = pb) w7 (w7.setCell ⟨pb, 2, none⟩ (.slice A7 (dvs 0 L9).length c7)) := (Turn.refl (fun k => k = pb) w7).set_ ⟨pb, 2, none⟩ _ rfl
      have ht2 : Turn (fun k => Y k ∨ (Value.slice Ab n cb).ownBlock = some k) w7 (w7.setCell ⟨pb, 2, none⟩ (.slice A7 (dvs 0 L9).length c7)) := ht.mono (fun _ _ e => Or.inl (e ▸ HIn.out.yp))
      refine h7.doc ht ?_ h7.off
      obtain ⟨t1, t2, t3, t4⟩ := HRows.out
      have t1' := (t1.below HB7.out t1.lt).set_ 2 (.slice A7 (dvs 0 L9).length c7)
      exact ⟨A0, c0, _, _, M7, M2, t1', (t2.below HB7.out).kept ht2, HR7.out.kept ht2, (t4.below HB7.out).kept ht2⟩)
    obtain ⟨w8, hw8⟩ : ∃ y, w7.setCell ⟨pb, 2, none⟩ (.slice A7 (dvs 0 L9).length c7) = y := ⟨_, rfl⟩
    rw [hw8] at HPn ⊢
    clear hw8 y2 f2 hS6 hS7 HAdd HR7 HB7 HRows HSb HP6 HG HDb d1
    have e0 := HPn.out.box.cell 1
    have e1 := HPn.out.box.cell 2
    have e2 := HPn.out.box.cell 3
    simp only [List.getElem?_toArray, List.getElem?_cons_zero, List.getElem?_cons_succ] at e0 e1 e2
    have HPc := Lib.hid (svote_any HPn.out.sl x.ki x.nd x.sg (c := cb) (has_rows HPn.out.row) HLn.out (by omega))
    rw [HVS.out] at HPc
    have gmb : (mb == mb) = true := by simp
    go_wp2_with fail
    refine HPc.out.mono ?_
    rintro e w6 ⟨rfl, hp⟩
    obtain ⟨u1, u2, hm⟩ := HPn.out.mid hp
    have HM := Lib.hid (show Mid w w6 Y sb v1 v2 u1 u2 pb f (actS n0 x s) (.slice Ab n cb) n from by rw [HAct.out, HVS.out]; exact hm)
    clear hp hm HPc e0 e1 e2
    go_wp2_with fail
    go_loopw [15, 112] (fun _ y wr => ∃ (k : Nat), y = .int .i64 k ∧ k ≤ n ∧ Hid (Mid w wr Y sb v1 v2 u1 u2 pb f (actS n0 x s) (.slice Ab n cb) n)) (fun _ y _ => n - (intOf y).toNat)
    case atStart => exact ⟨0, rfl, Nat.zero_le _, HM⟩
    case round =>
      clear HM
      obtain ⟨k, rfl, hk, HM⟩ := hrel
      by_cases hlt : k < n
      · obtain ⟨g, e0, e1, e2, e3, e4, e5, rfl, c0, c1, c2, c3, c4, c5, hfr, hm⟩ := HM.out.cells hlt
        have f0 := hfr (k * 6)
        have f1 := hfr (k * 6 + 1)
        have f2 := hfr (k * 6 + 2)
        have f3 := hfr (k * 6 + 3)
        have f4 := hfr (k * 6 + 4)
        have f5 := hfr (k * 6 + 5)
        have HM2 := Lib.hid hm
        clear hfr hm
        go_wp2_with fail
        go_roundw
        case rel => exact ⟨k + 1, by go_num, by omega, HM2⟩
        case measure => simp [intOf]; omega
      · obtain rfl : k = n := by omega
        have HRt := Lib.hid (right14_any HM.out.sl HM.out.ds)
        go_wp2_with fail
        refine HRt.out.mono ?_
        rintro e w9 ⟨rfl, hb9⟩
        have HM9 := Lib.hid (HM.out.below hb9).done
        clear hb9
        go_wp2_with fail
        go_ret
        exact ⟨rfl, HM9.out⟩
end
end Go.Proofs.Ytcebnmhkbhhfiaa
namespace Go.Proofs.Ytcebnmhkbhhfiaa
open Go.RowKit
set_option linter.unusedSimpArgs false

section
variable {w : World} {Y : Nat → Prop} {sb pb n0 : Nat} {v1 v2 : Value} {f : Int} {s : Sx} {x : Ac}
set_option maxRecDepth 100000 in
set_option maxHeartbeats 4000000 in
theorem do_k5 (h : DoIn w Y sb v1 v2 pb f s n0 x) {kk : Int} (hk : x.dd % 10 = kk) (hk1 : 1 ≤ kk ∧ kk ≤ 8) (hnd : 0 ≤ x.nd ∧ x.nd < (n0 : Int)) (hki : Hid (x.ki = 5)) :
    Calls Try.prog 8 #[.pointer (some ⟨sb, 0, none⟩), .pointer (some ⟨pb, 0, none⟩), .int .i64 f, .agg #[.int .i64 x.dd, .int .i64 x.ki, .int .i64 x.nd, .int .i64 x.sg, .int .i64 x.wh, .slice x.A x.l.length x.c]] w fun e w' => e = .returned (.bool true) ∧ DoPost w w' Y sb v1 v2 pb f (actS n0 x s) := by
  obtain ⟨b0, b1⟩ := wf_i64 h.dd
  have HW10 := Lib.hid (fun w => within_any x.dd 10 (by omega) (by omega) b0 b1 w)
  have HB1 := Lib.hid (show Below w.heap.size w (w.alloc (.cells #[.int .i64 x.dd, .int .i64 x.ki, .int .i64 x.nd, .int .i64 x.sg, .int .i64 x.wh, .slice x.A x.l.length x.c] 35)) from (Below.refl _ _).alloc (Nat.le_refl _) _)
  have HBx := Lib.hid (Blk.new w 35 #[.int .i64 x.dd, .int .i64 x.ki, .int .i64 x.nd, .int .i64 x.sg, .int .i64 x.wh, .slice x.A x.l.length x.c])
  have HBat := Lib.hid (fun (wz : World) (hx : Has wz wz.heap.size x.A (reqCells x.l)) => batch14_any hx h.le h.most h.nil h.wh)
  have HBt1 := Lib.hid (HBat.out _ ((h.arg.below HB1.out (Nat.le_refl _)).more HB1.out.size))
  have HIn := Lib.hid h
  obtain ⟨w1, hw1⟩ : ∃ w1, w.alloc (.cells #[.int .i64 x.dd, .int .i64 x.ki, .int .i64 x.nd, .int .i64 x.sg, .int .i64 x.wh, .slice x.A x.l.length x.c] 35) = w1 := ⟨_, rfl⟩
  obtain ⟨ab, hab⟩ : ∃ y, w.heap.size = y := ⟨_, rfl⟩
  have HAb := Lib.hid hab
  obtain ⟨xl, hxl⟩ : ∃ y, x.l.length = y := ⟨_, rfl⟩
  have HXl := Lib.hid hxl
  have hbx0 := HBx.out.cell 0
  have hbx1 := HBx.out.cell 1
  have hbx2 := HBx.out.cell 2
  have hbx3 := HBx.out.cell 3
  have hbx4 := HBx.out.cell 4
  have hbx5 := HBx.out.cell 5
  simp only [List.getElem?_toArray, List.getElem?_cons_zero, List.getElem?_cons_succ] at hbx0 hbx1 hbx2 hbx3 hbx4 hbx5
  rw [hk] at HW10
  rw [hw1] at HB1 HBt1 HBx hbx0 hbx1 hbx2 hbx3 hbx4 hbx5
  rw [hab] at HBx hbx0 hbx1 hbx2 hbx3 hbx4 hbx5
  rw [hxl] at HBt1 HBat hbx5 hw1 ⊢
  clear h b0 b1 hxl
  go_enter Try.func8, Try.ntmps8
  go_wp2_with fail
  refine HBt1.out.mono ?_
  rintro e w2 ⟨A2, n, c2, rfl, hP2⟩
  have HP2 := Lib.hid hP2
  clear hw1 hab hP2 hbx0 hbx1 hbx2 hbx3 hbx4 hbx5
  have hn3 : n ≤ 3 := HP2.out.short
  go_wp2_with fail
  refine (mcopy_reqs A2 c2 n w2.heap.size (btS x) w2 HP2.out.len.symm (by omega) HP2.out.has HP2.out.nil).mono ?_
  rintro e w3 ⟨vb, rfl, ho3, hb3⟩
  have hlow3 : Below w.heap.size w w3 := (HB1.out.trans (HP2.out.low.mono HB1.out.size)).trans (hb3.mono (Nat.le_trans HB1.out.size HP2.out.low.size))
  have HPr := Lib.hid (HIn.out.start (Nat.le_trans HB1.out.size HP2.out.low.size) ho3 hlow3 ((HBx.out.below HP2.out.low HBx.out.lt).below hb3 (Nat.lt_of_lt_of_le HBx.out.lt HP2.out.low.size)))
  obtain ⟨Ab, cb, rfl, -, -⟩ := own_slice ho3
  clear ho3 hb3 hlow3 HP2 HBt1 HB1 HBx
  have HAct := Lib.hid (show actS n0 x s = (s.vote x.ki x.nd x.sg (btS x)).2 from by unfold actS; rw [hk, if_neg (by omega), if_pos (by omega)])
  have hlen := (show (btS x).length = n from by have := HPr.out.row.1; rw [reqCells_len] at this; omega)
  have HLn := Lib.hid hlen
  have hkk : (kk == 0) = false := by simp; omega
  have hk9 : kk < 9 := by omega
  clear hk hlen
  have HNo := Lib.hid (fun (w : World) => (show Calls Try.prog 29 #[.int .i64 f] w fun e w' => e = .returned (.int .i64 (n0 : Int)) ∧ w' = w from by
    have hf1 := HIn.out.sl.f1
    have hf4 := HIn.out.sl.f4
    have hn1 := HIn.out.sl.n1
    have := rnodes_any f w
    rw [nodesS_in hf1 hf4, ← hn1, HIn.out.n0] at this
    exact this.mono fun _ _ he => ⟨he.1, he.2.symm⟩))
  have d0 := HPr.out.box.cell 0
  have d1 := HPr.out.box.cell 1
  have d2 := HPr.out.box.cell 2
  have d3 := HPr.out.box.cell 3
  have d4 := HPr.out.box.cell 4
  have d5 := HPr.out.box.cell 5
  simp only [List.getElem?_toArray, List.getElem?_cons_zero, List.getElem?_cons_succ] at d0 d1 d2 d3 d4 d5
  rw [HXl.out] at d5
  have HBq := Lib.hid (fun (m : Nat) => (HPr.out.below (w6 := w3.drewN m) ⟨rfl, rfl, rfl, Nat.le_refl _, fun _ _ => rfl⟩))
  have y2 := fun (m : Nat) => (show (w3.drewN m).cell? ⟨ab, 2, none⟩ = some (.int .i64 x.nd) from d2)
  go_wp2_with fail
  refine (HW10.out _).mono ?_
  rintro e wq ⟨rfl, rfl⟩
  go_wp2_with fail
  have hg1 : decide (0 ≤ x.nd) = true := decide_eq_true (by omega)
  have hg2 : decide (x.nd < (n0 : Int)) = true := decide_eq_true (by omega)
  obtain ⟨kn, hkn⟩ := Int.eq_ofNat_of_zero_le hnd.1
  have HNd := Lib.hid (And.intro hkn hnd)
  clear hnd hkn
  go_quiet ((go_at_call 29; exact Calls.quiet_of_same (HNo.out _)))
  have HPr2 := HBq.out nq
  obtain ⟨w4, hw4⟩ : ∃ y, w3.drewN nq = y := ⟨_, rfl⟩
  rw [hw4] at HPr2 ⊢
  have HPr2 := Lib.hid HPr2
  clear hw4 d0 d1 d2 d3 d4 d5 y2 HBq
  have HZ := Lib.hid (show Below w4.heap.size w4 (w4.alloc (.cells #[.int .i64 0, .int .i64 0, .slice none 0 0] 83)) from (Below.refl _ _).alloc (Nat.le_refl _) _)
  have HPz := Lib.hid (HPr2.out.below HZ.out)
  have HZb := Lib.hid (Blk.new w4 83 #[.int .i64 0, .int .i64 0, .slice none 0 0])
  have hdr : Below w4.heap.size w4 w4.drew := ⟨rfl, rfl, rfl, Nat.le_refl _, fun _ _ => rfl⟩
  have KA := Lib.hid (HBat.out w4.drew (HPr2.out.below hdr).arg5)
  have KB := Lib.hid (HBat.out (w4.alloc (.cells #[.int .i64 0, .int .i64 0, .slice none 0 0] 83)).drew (HPz.out.below (w6 := (w4.alloc (.cells #[.int .i64 0, .int .i64 0, .slice none 0 0] 83)).drew) ⟨rfl, rfl, rfl, Nat.le_refl _, fun _ _ => rfl⟩).arg5)
  have HSw := Lib.hid (show ab < w4.heap.size from HPr2.out.box.lt)
  have d0 := HPr2.out.box.cell 0
  have d1 := HPr2.out.box.cell 1
  have d2 := HPr2.out.box.cell 2
  have d3 := HPr2.out.box.cell 3
  have d4 := HPr2.out.box.cell 4
  have d5 := HPr2.out.box.cell 5
  simp only [List.getElem?_toArray, List.getElem?_cons_zero, List.getElem?_cons_succ] at d0 d1 d2 d3 d4 d5
  rw [HXl.out] at d5
  have m0 := HPz.out.box.cell 0
  have m1 := HPz.out.box.cell 1
  have m2 := HPz.out.box.cell 2
  have m3 := HPz.out.box.cell 3
  have m4 := HPz.out.box.cell 4
  have m5 := HPz.out.box.cell 5
  simp only [List.getElem?_toArray, List.getElem?_cons_zero, List.getElem?_cons_succ] at m0 m1 m2 m3 m4 m5
  rw [HXl.out] at m5
  clear hdr
  have HBoxX := Lib.hid (show Blk w4 ab 35 #[.int .i64 x.dd, .int .i64 x.ki, .int .i64 x.nd, .int .i64 x.sg, .int .i64 x.wh, .slice x.A xl x.c] from HXl.out ▸ HPr2.out.box)
  go_wp2_with fail
  apply one_end5 (F := fun g w6 A3 n3 c3 => Pr w w6 Y sb v1 v2 pb f s s (.slice Ab n cb) n ab x ∧ Blk w6 g 83 #[.int .i64 x.nd, .int .i64 x.sg, .slice A3 n3 c3] ∧ DBat w6 (fun k => Y k ∨ (Value.slice Ab n cb).ownBlock = some k) A3 c3 (btS x) ∧ n3 = (btS x).length ∧ w4.heap.size ≤ g)
  · intro hfin
    have HFin := Lib.hid hfin
    clear hfin
    have HSx := Lib.hid (show Blk w4.drew ab 35 #[.int .i64 x.dd, .int .i64 x.ki, .int .i64 x.nd, .int .i64 x.sg, .int .i64 x.wh, .slice x.A xl x.c] from HBoxX.out.drewN 1)
    refine wp_region_held_drew (S := fun w' => Blk w' ab 35 #[.int .i64 x.dd, .int .i64 x.ki, .int .i64 x.nd, .int .i64 x.sg, .int .i64 x.wh, .slice x.A xl x.c]) (by kernel_rfl) (HSx.out) (fun hHeld => ?_)
    refine wpAnyH_take (i := 0) (v := ?_) rfl (by kernel_rfl) (by kernel_rfl) (by kernel_rfl) (fun _ _ _ h => h) (Or.inl ⟨by rfl, ?_⟩) (by assumption) ?_
    rotate_left
    · (intro w hSw; (try dsimp only at hSw); have q0 := hSw.cell 0; have q1 := hSw.cell 1; have q2 := hSw.cell 2; have q3 := hSw.cell 3; have q4 := hSw.cell 4; have q5 := hSw.cell 5; simp only [List.getElem?_toArray, List.getElem?_cons_zero, List.getElem?_cons_succ] at q0 q1 q2 q3 q4 q5; first | (go_simp; done) | (go_simp; with_reducible rfl))
    try simp only [Act.put, List.getElem_toArray, List.getElem_cons_zero, List.getElem_cons_succ, List.setIfInBounds_toArray, List.set_cons_zero, List.set_cons_succ]
    refine wpAnyH_take (i := 1) (v := ?_) rfl (by kernel_rfl) (by kernel_rfl) (by kernel_rfl) (fun _ _ _ h => h) (Or.inl ⟨by rfl, ?_⟩) (by assumption) ?_
    rotate_left
    · (intro w hSw; (try dsimp only at hSw); have q0 := hSw.cell 0; have q1 := hSw.cell 1; have q2 := hSw.cell 2; have q3 := hSw.cell 3; have q4 := hSw.cell 4; have q5 := hSw.cell 5; simp only [List.getElem?_toArray, List.getElem?_cons_zero, List.getElem?_cons_succ] at q0 q1 q2 q3 q4 q5; first | (go_simp; done) | (go_simp; with_reducible rfl))
    try simp only [Act.put, List.getElem_toArray, List.getElem_cons_zero, List.getElem_cons_succ, List.setIfInBounds_toArray, List.set_cons_zero, List.set_cons_succ]
    refine wpAnyH_take (i := 2) (v := ?_) rfl (by kernel_rfl) (by kernel_rfl) (by kernel_rfl) (fun _ _ _ h => h) (Or.inl ⟨by rfl, ?_⟩) (by assumption) ?_
    rotate_left
    · (intro w hSw; (try dsimp only at hSw); have q0 := hSw.cell 0; have q1 := hSw.cell 1; have q2 := hSw.cell 2; have q3 := hSw.cell 3; have q4 := hSw.cell 4; have q5 := hSw.cell 5; simp only [List.getElem?_toArray, List.getElem?_cons_zero, List.getElem?_cons_succ] at q0 q1 q2 q3 q4 q5; first | (go_simp; done) | (go_simp; with_reducible rfl))
    try simp only [Act.put, List.getElem_toArray, List.getElem_cons_zero, List.getElem_cons_succ, List.setIfInBounds_toArray, List.set_cons_zero, List.set_cons_succ]
    refine wpAnyH_take (i := 3) (v := ?_) rfl (by kernel_rfl) (by kernel_rfl) (by kernel_rfl) (fun _ _ _ h => h) (Or.inl ⟨by rfl, ?_⟩) (by assumption) ?_
    rotate_left
    · (intro w hSw; (try dsimp only at hSw); have q0 := hSw.cell 0; have q1 := hSw.cell 1; have q2 := hSw.cell 2; have q3 := hSw.cell 3; have q4 := hSw.cell 4; have q5 := hSw.cell 5; simp only [List.getElem?_toArray, List.getElem?_cons_zero, List.getElem?_cons_succ] at q0 q1 q2 q3 q4 q5; first | (go_simp; done) | (go_simp; with_reducible rfl))
    try simp only [Act.put, List.getElem_toArray, List.getElem_cons_zero, List.getElem_cons_succ, List.setIfInBounds_toArray, List.set_cons_zero, List.set_cons_succ]
    refine wpAnyH_take (i := 4) (v := ?_) rfl (by kernel_rfl) (by kernel_rfl) (by kernel_rfl) (fun _ _ _ h => h) (Or.inl ⟨by rfl, ?_⟩) (by assumption) ?_
    rotate_left
    · (intro w hSw; (try dsimp only at hSw); have q0 := hSw.cell 0; have q1 := hSw.cell 1; have q2 := hSw.cell 2; have q3 := hSw.cell 3; have q4 := hSw.cell 4; have q5 := hSw.cell 5; simp only [List.getElem?_toArray, List.getElem?_cons_zero, List.getElem?_cons_succ] at q0 q1 q2 q3 q4 q5; first | (go_simp; done) | (go_simp; with_reducible rfl))
    try simp only [Act.put, List.getElem_toArray, List.getElem_cons_zero, List.getElem_cons_succ, List.setIfInBounds_toArray, List.set_cons_zero, List.set_cons_succ]
    refine wpAnyH_ready (rs := [5, 7]) (by kernel_rfl) (by simp) ?_
    refine AllReadyH.cons rfl (fun K hK => ?_) (AllReadyH.cons rfl (fun K hK => ?_) AllReadyH.nil)
    · go_simp
      go_at_call 28
      refine KA.out.mono ?_
      rintro e w5 ⟨A3, n3, c3, rfl, hP⟩
      have HPa := Lib.hid hP
      refine hK.out _ _ (HSx.out.below hP.low HSx.out.lt) (fun hHeld => ?_)
      clear hK K
      try simp only [Act.put, List.getElem_toArray, List.getElem_cons_zero, List.getElem_cons_succ, List.setIfInBounds_toArray, List.set_cons_zero, List.set_cons_succ]
      refine wpAnyH_take (i := 6) (v := ?_) rfl (by kernel_rfl) (by kernel_rfl) (by kernel_rfl) (fun _ _ _ h => h) (Or.inl ⟨by rfl, ?_⟩) (by assumption) ?_
      rotate_left
      · (intro w hSw; first | (go_simp; done) | (go_simp; with_reducible rfl))
      try simp only [Act.put, List.getElem_toArray, List.getElem_cons_zero, List.getElem_cons_succ, List.setIfInBounds_toArray, List.set_cons_zero, List.set_cons_succ]
      refine wpAnyH_ready (rs := [7]) (by kernel_rfl) (by simp) ?_
      refine AllReadyH.cons rfl (fun K hK => ?_) AllReadyH.nil
      go_simp
      refine hK.out _ _ ((HSx.out.below hP.low HSx.out.lt).alloc _) (fun hHeld => ?_)
      clear hK K
      try simp only [Act.put, List.getElem_toArray, List.getElem_cons_zero, List.getElem_cons_succ, List.setIfInBounds_toArray, List.set_cons_zero, List.set_cons_succ]
      refine wpAnyH_ready (rs := [8]) (by kernel_rfl) (by simp) ?_
      refine AllReadyH.cons rfl (fun K hK => ?_) AllReadyH.nil
      go_simp
      refine hK.out _ _ ((HSx.out.below HPa.out.low HSx.out.lt).alloc _) (fun hHeld => ?_)
      clear hK K
      try simp only [Act.put, List.getElem_toArray, List.getElem_cons_zero, List.getElem_cons_succ, List.setIfInBounds_toArray, List.set_cons_zero, List.set_cons_succ]
      refine wpAnyH_done (by kernel_rfl) ?_ _
      obtain ⟨w6, hw6⟩ : ∃ w6, w5.alloc (.cells #[.int .i64 x.nd, .int .i64 x.sg, .slice A3 n3 c3] 83) = w6 := ⟨_, rfl⟩
      obtain ⟨g, hg⟩ : ∃ g, w5.heap.size = g := ⟨_, rfl⟩
      have hend := vote_endA HPr2.out HPa.out hw6 hg
      rw [hw6, hg]
      exact HFin.out g w6 A3 n3 c3 hend
    · go_simp
      refine hK.out _ _ ((HBoxX.out.alloc _).drewN 1) (fun hHeld => ?_)
      clear hK K
      try simp only [Act.put, List.getElem_toArray, List.getElem_cons_zero, List.getElem_cons_succ, List.setIfInBounds_toArray, List.set_cons_zero, List.set_cons_succ]
      refine wpAnyH_ready (rs := [5]) (by kernel_rfl) (by simp) ?_
      refine AllReadyH.cons rfl (fun K hK => ?_) AllReadyH.nil
      go_simp
      go_at_call 28
      refine KB.out.mono ?_
      rintro e w5 ⟨A3, n3, c3, rfl, hP⟩
      have HPb := Lib.hid hP
      have HSz := Lib.hid (((HBoxX.out.alloc (.cells #[.int .i64 0, .int .i64 0, .slice none 0 0] 83)).drewN 1).below hP.low ((HBoxX.out.alloc (.cells #[.int .i64 0, .int .i64 0, .slice none 0 0] 83)).drewN 1).lt)
      refine hK.out _ _ HSz.out (fun hHeld => ?_)
      clear hK K
      try simp only [Act.put, List.getElem_toArray, List.getElem_cons_zero, List.getElem_cons_succ, List.setIfInBounds_toArray, List.set_cons_zero, List.set_cons_succ]
      refine wpAnyH_take (i := 6) (v := ?_) rfl (by kernel_rfl) (by kernel_rfl) (by kernel_rfl) (fun _ _ _ h => h) (Or.inl ⟨by rfl, ?_⟩) (by assumption) ?_
      rotate_left
      · (intro w hSw; first | (go_simp; done) | (go_simp; with_reducible rfl))
      try simp only [Act.put, List.getElem_toArray, List.getElem_cons_zero, List.getElem_cons_succ, List.setIfInBounds_toArray, List.set_cons_zero, List.set_cons_succ]
      refine wpAnyH_ready (rs := [8]) (by kernel_rfl) (by simp) ?_
      refine AllReadyH.cons rfl (fun K hK => ?_) AllReadyH.nil
      have hz3 := (HZb.out.drewN 1).below HPb.out.low HZb.out.lt
      have y0 := hz3.cell 0
      have y1 := hz3.cell 1
      have y2 := hz3.cell 2
      have fz := fun i => hz3.frozen i
      simp only [List.getElem?_toArray, List.getElem?_cons_zero, List.getElem?_cons_succ] at y0 y1 y2
      go_simp
      have hnab : ab ≠ w4.heap.size := by have := HPr2.out.box.lt; omega
      refine hK.out _ _ (((HSz.out.far hnab _).far hnab _).far hnab _) (fun hHeld => ?_)
      clear hK K
      try simp only [Act.put, List.getElem_toArray, List.getElem_cons_zero, List.getElem_cons_succ, List.setIfInBounds_toArray, List.set_cons_zero, List.set_cons_succ]
      refine wpAnyH_done (by kernel_rfl) ?_ _
      obtain ⟨w6, hw6⟩ : ∃ w6, ((w5.setCell ⟨w4.heap.size, 0, none⟩ (.int .i64 x.nd)).setCell ⟨w4.heap.size, 1, none⟩ (.int .i64 x.sg)).setCell ⟨w4.heap.size, 2, none⟩ (.slice A3 n3 c3) = w6 := ⟨_, rfl⟩
      obtain ⟨g, hg⟩ : ∃ g, w4.heap.size = g := ⟨_, rfl⟩
      have hend := vote_endB HPr2.out HPb.out hw6 hg
      rw [hw6, hg]
      exact HFin.out g w6 A3 n3 c3 hend
  · intro g w6 A3 n3 c3 hf
    obtain ⟨hp6, hb6, hd6, hn3', hg6⟩ := hf
    have HP6 := Lib.hid hp6
    have HG := Lib.hid hb6
    have HDb := Lib.hid hd6
    have HN3 := Lib.hid hn3'
    have d1 := HP6.out.box.cell 1
    simp only [List.getElem?_toArray, List.getElem?_cons_zero, List.getElem?_cons_succ] at d1
    clear hp6 hb6 hd6 hn3' hg6 m0 m1 m2 m3 m4 m5 HBoxX HZ HPz HZb KA KB HSw HPr2 HPr d0 d2 d3 d4 d5 hg1 hg2
    have g4 : (x.ki == 4) = false := by rw [hki.out]; rfl
    have g45 : (x.ki == 5) = true := by rw [hki.out]; rfl
    obtain ⟨A0, c0, r1, r2, M1, M2, p1, p2, p3, p4⟩ := HP6.out.ds.mem
    have HAdd := Lib.hid (radd_any (w := w6.drew) (k := kn) (sg := x.sg) (n := n3) (p4.below (⟨rfl, rfl, rfl, Nat.le_refl _, fun _ _ => rfl⟩ : Below w6.heap.size w6 w6.drew)) (by have h1 := HIn.out.sl.n1; have h2 := HIn.out.sl.n2; have h3 := HIn.out.sl.f4; omega) (by have h1 := HIn.out.sl.n1; have h2 := HIn.out.sl.n2; have h3 := HIn.out.n0; have h4 := HNd.out; omega) (HDb.out.below (⟨rfl, rfl, rfl, Nat.le_refl _, fun _ _ => rfl⟩ : Below w6.heap.size w6 w6.drew)) HN3.out.symm (fun k hk => by
      show k < w6.heap.size
      rcases hk with hk | hk
      · have := HIn.out.ylt k hk; have := HP6.out.tn.size; omega
      · exact (HP6.out.row.lt k hk).2))
    rw [← HNd.out.1] at HAdd
    have HRows := Lib.hid (And.intro p1 (And.intro p2 (And.intro p3 p4)))
    obtain ⟨B1, k1, rfl, -, -⟩ := own_slice p3.own
    obtain ⟨B2, k2, rfl, -, -⟩ := own_slice p4.own
    obtain ⟨nP, hnP⟩ : ∃ y, (dvs 0 s.P).length = y := ⟨_, rfl⟩
    obtain ⟨nC, hnC⟩ : ∃ y, (dvs 0 s.C).length = y := ⟨_, rfl⟩
    obtain ⟨bo, hbo⟩ : ∃ y, s.ch.isSome = y := ⟨_, rfl⟩
    obtain ⟨l0, hl0⟩ : ∃ y, (s.ch.getD []).length = y := ⟨_, rfl⟩
    rw [hnP, hnC, hbo, hl0] at p1
    rw [hnC] at HAdd
    have HSb := Lib.hid p1
    have z2 := p1.cell 3
    simp only [List.getElem?_toArray, List.getElem?_cons_zero, List.getElem?_cons_succ] at z2
    clear p1 p2 p3 p4
    obtain ⟨vt, hvt⟩ : ∃ y, votS s.C x.nd x.sg (btS x) = y := ⟨_, rfl⟩
    obtain ⟨mb, L9⟩ := vt
    rw [hvt] at HAdd
    have HVt := Lib.hid hvt
    have hS6 : (w6.drew.cell? ⟨pb, 3, none⟩ = some (.slice B2 nC k2) ∧ w6.drew.cell? ⟨g, 0, none⟩ = some (.int .i64 x.nd) ∧ w6.drew.cell? ⟨g, 1, none⟩ = some (.int .i64 x.sg) ∧ w6.drew.cell? ⟨g, 2, none⟩ = some (.slice A3 n3 c3)) := ⟨HSb.out.cell 3, HG.out.cell 0, HG.out.cell 1, HG.out.cell 2⟩
    clear z2 hvt hnP hnC hbo hl0
    go_wp2_with fail
    refine wpM_region (S := fun w' => w'.cell? ⟨pb, 3, none⟩ = some (.slice B2 nC k2) ∧ w'.cell? ⟨g, 0, none⟩ = some (.int .i64 x.nd) ∧ w'.cell? ⟨g, 1, none⟩ = some (.int .i64 x.sg) ∧ w'.cell? ⟨g, 2, none⟩ = some (.slice A3 n3 c3)) (z := [0, 1, 2, 3, 7, 8, 9, 10, 11, 12, 13]) (by kernel_rfl) rfl rfl hS6 (fun hHeld => ?_)
    refine wpM_pure (i := 0) (v := ?_) rfl (by kernel_rfl) (by kernel_rfl) (by kernel_rfl) (by kernel_rfl) (fun _ _ _ h => h) (Or.inl ⟨by rfl, ?_⟩) ?_
    rotate_left
    · (intro w hSw; first | (go_simp; done) | (go_simp; with_reducible rfl))
    try simp only [Act.put, List.getElem_toArray, List.getElem_cons_zero, List.getElem_cons_succ, List.setIfInBounds_toArray, List.set_cons_zero, List.set_cons_succ]
    refine wpM_pure (i := 1) (v := ?_) rfl (by kernel_rfl) (by kernel_rfl) (by kernel_rfl) (by kernel_rfl) (fun _ _ _ h => h) (Or.inl ⟨by rfl, ?_⟩) ?_
    rotate_left
    · (intro w hSw; first | (go_simp; done) | (go_simp; with_reducible rfl))
    try simp only [Act.put, List.getElem_toArray, List.getElem_cons_zero, List.getElem_cons_succ, List.setIfInBounds_toArray, List.set_cons_zero, List.set_cons_succ]
    refine wpM_pure (i := 2) (v := ?_) rfl (by kernel_rfl) (by kernel_rfl) (by kernel_rfl) (by kernel_rfl) (fun _ _ _ h => h) (Or.inl ⟨by rfl, ?_⟩) ?_
    rotate_left
    · (intro w hSw; first | (go_simp; done) | (go_simp; with_reducible rfl))
    try simp only [Act.put, List.getElem_toArray, List.getElem_cons_zero, List.getElem_cons_succ, List.setIfInBounds_toArray, List.set_cons_zero, List.set_cons_succ]
    refine wpM_pure (i := 3) (v := ?_) rfl (by kernel_rfl) (by kernel_rfl) (by kernel_rfl) (by kernel_rfl) (fun _ _ _ h => h) (Or.inl ⟨by rfl, ?_⟩) ?_
    rotate_left
    · (intro w hSw; first | (go_simp; done) | (go_simp; with_reducible rfl))
    try simp only [Act.put, List.getElem_toArray, List.getElem_cons_zero, List.getElem_cons_succ, List.setIfInBounds_toArray, List.set_cons_zero, List.set_cons_succ]
    refine wpM_take (ps := [[], [6], [7, 6]]) (i := 4) (v := ?_) rfl (by kernel_rfl) (by kernel_rfl) (by kernel_rfl) (by kernel_rfl) (by kernel_rfl) (fun _ _ _ h => h) (Or.inl ⟨by rfl, ?_⟩) (by assumption) ?_
    rotate_left
    · (intro w hSw; obtain ⟨q0, q1, q2, q3⟩ := hSw; first | (go_simp; done) | (go_simp; with_reducible rfl))
    try simp only [Act.put, List.getElem_toArray, List.getElem_cons_zero, List.getElem_cons_succ, List.setIfInBounds_toArray, List.set_cons_zero, List.set_cons_succ]
    refine wpM_take (ps := [[], [6], [7, 6]]) (i := 5) (v := ?_) rfl (by kernel_rfl) (by kernel_rfl) (by kernel_rfl) (by kernel_rfl) (by kernel_rfl) (fun _ _ _ h => h) (Or.inl ⟨by rfl, ?_⟩) (by assumption) ?_
    rotate_left
    · (intro w hSw; obtain ⟨q0, q1, q2, q3⟩ := hSw; first | (go_simp; done) | (go_simp; with_reducible rfl))
    try simp only [Act.put, List.getElem_toArray, List.getElem_cons_zero, List.getElem_cons_succ, List.setIfInBounds_toArray, List.set_cons_zero, List.set_cons_succ]
    refine wpM_ready (rs := [6]) (by kernel_rfl) (by simp) ?_
    refine AllM.cons rfl (fun K hK => ?_) AllM.nil
    go_simp
    go_at_call 30
    refine HAdd.out.mono ?_
    rintro e w7 ⟨u7, M7, rfl, hr7, hb7⟩
    have hlow7 : Below w6.heap.size w6 w7 := Below.trans (⟨rfl, rfl, rfl, Nat.le_refl _, fun _ _ => rfl⟩ : Below w6.heap.size w6 w6.drew) hb7
    have HB7 := Lib.hid hlow7
    have HR7 := Lib.hid hr7
    have hsb7 := HSb.out.below hlow7 HSb.out.lt
    have hg7 := HG.out.below hlow7 HG.out.lt
    have hS7 : (w7.cell? ⟨pb, 3, none⟩ = some (.slice B2 nC k2) ∧ w7.cell? ⟨g, 0, none⟩ = some (.int .i64 x.nd) ∧ w7.cell? ⟨g, 1, none⟩ = some (.int .i64 x.sg) ∧ w7.cell? ⟨g, 2, none⟩ = some (.slice A3 n3 c3)) := ⟨hsb7.cell 3, hg7.cell 0, hg7.cell 1, hg7.cell 2⟩
    obtain ⟨A7, c7, rfl, -, -⟩ := own_slice hr7.own
    have y2 := hsb7.cell 3
    have f2 := hsb7.frozen 3
    simp only [List.getElem?_toArray, List.getElem?_cons_zero, List.getElem?_cons_succ] at y2
    clear hr7 hb7 hlow7 hsb7 hg7
    refine hK.out _ _ (fun _ => hS7) (fun hHeld => ?_)
    clear hK K
    try simp only [Act.put, List.getElem_toArray, List.getElem_cons_zero, List.getElem_cons_succ, List.setIfInBounds_toArray, List.set_cons_zero, List.set_cons_succ]
    refine wpM_pure (i := 7) (v := ?_) rfl (by kernel_rfl) (by kernel_rfl) (by kernel_rfl) (by kernel_rfl) (fun _ _ _ h => h) (Or.inl ⟨by rfl, ?_⟩) ?_
    rotate_left
    · (intro w hSw; first | (go_simp; done) | (go_simp; with_reducible rfl))
    try simp only [Act.put, List.getElem_toArray, List.getElem_cons_zero, List.getElem_cons_succ, List.setIfInBounds_toArray, List.set_cons_zero, List.set_cons_succ]
    refine wpM_pure (i := 8) (v := ?_) rfl (by kernel_rfl) (by kernel_rfl) (by kernel_rfl) (by kernel_rfl) (fun _ _ _ h => h) (Or.inl ⟨by rfl, ?_⟩) ?_
    rotate_left
    · (intro w hSw; first | (go_simp; done) | (go_simp; with_reducible rfl))
    try simp only [Act.put, List.getElem_toArray, List.getElem_cons_zero, List.getElem_cons_succ, List.setIfInBounds_toArray, List.set_cons_zero, List.set_cons_succ]
    refine wpM_pure (i := 9) (v := ?_) rfl (by kernel_rfl) (by kernel_rfl) (by kernel_rfl) (by kernel_rfl) (fun _ _ _ h => h) (Or.inl ⟨by rfl, ?_⟩) ?_
    rotate_left
    · (intro w hSw; first | (go_simp; done) | (go_simp; with_reducible rfl))
    try simp only [Act.put, List.getElem_toArray, List.getElem_cons_zero, List.getElem_cons_succ, List.setIfInBounds_toArray, List.set_cons_zero, List.set_cons_succ]
    refine wpM_pure (i := 10) (v := ?_) rfl (by kernel_rfl) (by kernel_rfl) (by kernel_rfl) (by kernel_rfl) (fun _ _ _ h => h) (Or.inl ⟨by rfl, ?_⟩) ?_
    rotate_left
    · (intro w hSw; first | (go_simp; done) | (go_simp; with_reducible rfl))
    try simp only [Act.put, List.getElem_toArray, List.getElem_cons_zero, List.getElem_cons_succ, List.setIfInBounds_toArray, List.set_cons_zero, List.set_cons_succ]
    refine wpM_pure (i := 11) (v := ?_) rfl (by kernel_rfl) (by kernel_rfl) (by kernel_rfl) (by kernel_rfl) (fun _ _ _ h => h) (Or.inl ⟨by rfl, ?_⟩) ?_
    rotate_left
    · (intro w hSw; first | (go_simp; done) | (go_simp; with_reducible rfl))
    try simp only [Act.put, List.getElem_toArray, List.getElem_cons_zero, List.getElem_cons_succ, List.setIfInBounds_toArray, List.set_cons_zero, List.set_cons_succ]
    refine wpM_ready (rs := [12]) (by kernel_rfl) (by simp) ?_
    refine AllM.cons rfl (fun K hK => ?_) AllM.nil
    go_simp
    refine hK.out _ _ (fun h => absurd h (by decide)) (fun hHeld => ?_)
    clear hK K
    try simp only [Act.put, List.getElem_toArray, List.getElem_cons_zero, List.getElem_cons_succ, List.setIfInBounds_toArray, List.set_cons_zero, List.set_cons_succ]
    refine wpM_pure (i := 13) (v := ?_) rfl (by kernel_rfl) (by kernel_rfl) (by kernel_rfl) (by kernel_rfl) (fun _ _ _ h => h) (Or.inl ⟨by rfl, ?_⟩) ?_
    rotate_left
    · (intro w hSw; first | (go_simp; done) | (go_simp; with_reducible rfl))
    try simp only [Act.put, List.getElem_toArray, List.getElem_cons_zero, List.getElem_cons_succ, List.setIfInBounds_toArray, List.set_cons_zero, List.set_cons_succ]
    refine wpM_done (by kernel_rfl) ?_ _
    have HVS := Lib.hid (show s.vote x.ki x.nd x.sg (btS x) = (mb, ⟨s.ch, s.P, L9⟩) from by unfold Sx.vote; rw [if_neg (by rw [hki.out]; decide), if_pos hki.out]; rw [HVt.out])
    have HPn := Lib.hid (show Pr w (w7.setCell ⟨pb, 3, none⟩ (.slice A7 (dvs 0 L9).length c7)) Y sb v1 v2 pb f s (⟨s.ch, s.P, L9⟩) (.slice Ab n cb) n ab x from by
      have h7 := HP6.out.below HB7.out
      have ht : Turn (fun k => k = pb) w7 (w7.setCell ⟨pb, 3, none⟩ (.slice A7 (dvs 0 L9).length c7)) := (Turn.refl (fun k => k = pb) w7).set_ ⟨pb, 3, none⟩ _ rfl
      have ht2 : Turn (fun k => Y k ∨ (Value.slice Ab n cb).ownBlock = some k) w7 (w7.setCell ⟨pb, 3, none⟩ (.slice A7 (dvs 0 L9).length c7)) := ht.mono (fun _ _ e => Or.inl (e ▸ HIn.out.yp))
      refine h7.doc ht ?_ h7.off
      obtain ⟨t1, t2, t3, t4⟩ := HRows.out
      have t1' := (t1.below HB7.out t1.lt).set_ 3 (.slice A7 (dvs 0 L9).length c7)
      exact ⟨A0, c0, _, _, M1, M7, t1', (t2.below HB7.out).kept ht2, (t3.below HB7.out).kept ht2, HR7.out.kept ht2⟩)
    obtain ⟨w8, hw8⟩ : ∃ y, w7.setCell ⟨pb, 3, none⟩ (.slice A7 (dvs 0 L9).length c7) = y := ⟨_, rfl⟩
    rw [hw8] at HPn ⊢
    clear hw8 y2 f2 hS6 hS7 HAdd HR7 HB7 HRows HSb HP6 HG HDb d1
    have e0 := HPn.out.box.cell 1
    have e1 := HPn.out.box.cell 2
    have e2 := HPn.out.box.cell 3
    simp only [List.getElem?_toArray, List.getElem?_cons_zero, List.getElem?_cons_succ] at e0 e1 e2
    have HPc := Lib.hid (svote_any HPn.out.sl x.ki x.nd x.sg (c := cb) (has_rows HPn.out.row) HLn.out (by omega))
    rw [HVS.out] at HPc
    have gmb : (mb == mb) = true := by simp
    go_wp2_with fail
    refine HPc.out.mono ?_
    rintro e w6 ⟨rfl, hp⟩
    obtain ⟨u1, u2, hm⟩ := HPn.out.mid hp
    have HM := Lib.hid (show Mid w w6 Y sb v1 v2 u1 u2 pb f (actS n0 x s) (.slice Ab n cb) n from by rw [HAct.out, HVS.out]; exact hm)
    clear hp hm HPc e0 e1 e2
    go_wp2_with fail
    go_loopw [15, 112] (fun _ y wr => ∃ (k : Nat), y = .int .i64 k ∧ k ≤ n ∧ Hid (Mid w wr Y sb v1 v2 u1 u2 pb f (actS n0 x s) (.slice Ab n cb) n)) (fun _ y _ => n - (intOf y).toNat)
    case atStart => exact ⟨0, rfl, Nat.zero_le _, HM⟩
    case round =>
      clear HM
      obtain ⟨k, rfl, hk, HM⟩ := hrel
      by_cases hlt : k < n
      · obtain ⟨g, e0, e1, e2, e3, e4, e5, rfl, c0, c1, c2, c3, c4, c5, hfr, hm⟩ := HM.out.cells hlt
        have f0 := hfr (k * 6)
        have f1 := hfr (k * 6 + 1)
        have f2 := hfr (k * 6 + 2)
        have f3 := hfr (k * 6 + 3)
        have f4 := hfr (k * 6 + 4)
        have f5 := hfr (k * 6 + 5)
        have HM2 := Lib.hid hm
        clear hfr hm
        go_wp2_with fail
        go_roundw
        case rel => exact ⟨k + 1, by go_num, by omega, HM2⟩
        case measure => simp [intOf]; omega
      · obtain rfl : k = n := by omega
        have HRt := Lib.hid (right14_any HM.out.sl HM.out.ds)
        go_wp2_with fail
        refine HRt.out.mono ?_
        rintro e w9 ⟨rfl, hb9⟩
        have HM9 := Lib.hid (HM.out.below hb9).done
        clear hb9
        go_wp2_with fail
        go_ret
        exact ⟨rfl, HM9.out⟩
end
end Go.Proofs.Ytcebnmhkbhhfiaa
namespace Go.Proofs.Ytcebnmhkbhhfiaa
open Go.RowKit
set_option linter.unusedSimpArgs false

section
variable {w : World} {Y : Nat → Prop} {sb pb n0 : Nat} {v1 v2 : Value} {f : Int} {s : Sx} {x : Ac}
set_option maxRecDepth 100000 in
set_option maxHeartbeats 4000000 in
theorem do_k0 (h : DoIn w Y sb v1 v2 pb f s n0 x) {kk : Int} (hk : x.dd % 10 = kk) (hk1 : 1 ≤ kk ∧ kk ≤ 8) (hnd : 0 ≤ x.nd ∧ x.nd < (n0 : Int)) (hki : Hid (x.ki ≠ 4 ∧ x.ki ≠ 5)) :
    Calls Try.prog 8 #[.pointer (some ⟨sb, 0, none⟩), .pointer (some ⟨pb, 0, none⟩), .int .i64 f, .agg #[.int .i64 x.dd, .int .i64 x.ki, .int .i64 x.nd, .int .i64 x.sg, .int .i64 x.wh, .slice x.A x.l.length x.c]] w fun e w' => e = .returned (.bool true) ∧ DoPost w w' Y sb v1 v2 pb f (actS n0 x s) := by
  obtain ⟨b0, b1⟩ := wf_i64 h.dd
  have HW10 := Lib.hid (fun w => within_any x.dd 10 (by omega) (by omega) b0 b1 w)
  have HB1 := Lib.hid (show Below w.heap.size w (w.alloc (.cells #[.int .i64 x.dd, .int .i64 x.ki, .int .i64 x.nd, .int .i64 x.sg, .int .i64 x.wh, .slice x.A x.l.length x.c] 35)) from (Below.refl _ _).alloc (Nat.le_refl _) _)
  have HBx := Lib.hid (Blk.new w 35 #[.int .i64 x.dd, .int .i64 x.ki, .int .i64 x.nd, .int .i64 x.sg, .int .i64 x.wh, .slice x.A x.l.length x.c])
  have HBat := Lib.hid (fun (wz : World) (hx : Has wz wz.heap.size x.A (reqCells x.l)) => batch14_any hx h.le h.most h.nil h.wh)
  have HBt1 := Lib.hid (HBat.out _ ((h.arg.below HB1.out (Nat.le_refl _)).more HB1.out.size))
  have HIn := Lib.hid h
  obtain ⟨w1, hw1⟩ : ∃ w1, w.alloc (.cells #[.int .i64 x.dd, .int .i64 x.ki, .int .i64 x.nd, .int .i64 x.sg, .int .i64 x.wh, .slice x.A x.l.length x.c] 35) = w1 := ⟨_, rfl⟩
  obtain ⟨ab, hab⟩ : ∃ y, w.heap.size = y := ⟨_, rfl⟩
  have HAb := Lib.hid hab
  obtain ⟨xl, hxl⟩ : ∃ y, x.l.length = y := ⟨_, rfl⟩
  have HXl := Lib.hid hxl
  have hbx0 := HBx.out.cell 0
  have hbx1 := HBx.out.cell 1
  have hbx2 := HBx.out.cell 2
  have hbx3 := HBx.out.cell 3
  have hbx4 := HBx.out.cell 4
  have hbx5 := HBx.out.cell 5
  simp only [List.getElem?_toArray, List.getElem?_cons_zero, List.getElem?_cons_succ] at hbx0 hbx1 hbx2 hbx3 hbx4 hbx5
  rw [hk] at HW10
  rw [hw1] at HB1 HBt1 HBx hbx0 hbx1 hbx2 hbx3 hbx4 hbx5
  rw [hab] at HBx hbx0 hbx1 hbx2 hbx3 hbx4 hbx5
  rw [hxl] at HBt1 HBat hbx5 hw1 ⊢
  clear h b0 b1 hxl
  go_enter Try.func8, Try.ntmps8
  go_wp2_with fail
  refine HBt1.out.mono ?_
  rintro e w2 ⟨A2, n, c2, rfl, hP2⟩
  have HP2 := Lib.hid hP2
  clear hw1 hab hP2 hbx0 hbx1 hbx2 hbx3 hbx4 hbx5
  have hn3 : n ≤ 3 := HP2.out.short
  go_wp2_with fail
  refine (mcopy_reqs A2 c2 n w2.heap.size (btS x) w2 HP2.out.len.symm (by omega) HP2.out.has HP2.out.nil).mono ?_
  rintro e w3 ⟨vb, rfl, ho3, hb3⟩
  have hlow3 : Below w.heap.size w w3 := (HB1.out.trans (HP2.out.low.mono HB1.out.size)).trans (hb3.mono (Nat.le_trans HB1.out.size HP2.out.low.size))
  have HPr := Lib.hid (HIn.out.start (Nat.le_trans HB1.out.size HP2.out.low.size) ho3 hlow3 ((HBx.out.below HP2.out.low HBx.out.lt).below hb3 (Nat.lt_of_lt_of_le HBx.out.lt HP2.out.low.size)))
  obtain ⟨Ab, cb, rfl, -, -⟩ := own_slice ho3
  clear ho3 hb3 hlow3 HP2 HBt1 HB1 HBx
  have HAct := Lib.hid (show actS n0 x s = (s.vote x.ki x.nd x.sg (btS x)).2 from by unfold actS; rw [hk, if_neg (by omega), if_pos (by omega)])
  have hlen := (show (btS x).length = n from by have := HPr.out.row.1; rw [reqCells_len] at this; omega)
  have HLn := Lib.hid hlen
  have hkk : (kk == 0) = false := by simp; omega
  have hk9 : kk < 9 := by omega
  clear hk hlen
  have HNo := Lib.hid (fun (w : World) => (show Calls Try.prog 29 #[.int .i64 f] w fun e w' => e = .returned (.int .i64 (n0 : Int)) ∧ w' = w from by
    have hf1 := HIn.out.sl.f1
    have hf4 := HIn.out.sl.f4
    have hn1 := HIn.out.sl.n1
    have := rnodes_any f w
    rw [nodesS_in hf1 hf4, ← hn1, HIn.out.n0] at this
    exact this.mono fun _ _ he => ⟨he.1, he.2.symm⟩))
  have d0 := HPr.out.box.cell 0
  have d1 := HPr.out.box.cell 1
  have d2 := HPr.out.box.cell 2
  have d3 := HPr.out.box.cell 3
  have d4 := HPr.out.box.cell 4
  have d5 := HPr.out.box.cell 5
  simp only [List.getElem?_toArray, List.getElem?_cons_zero, List.getElem?_cons_succ] at d0 d1 d2 d3 d4 d5
  rw [HXl.out] at d5
  have HBq := Lib.hid (fun (m : Nat) => (HPr.out.below (w6 := w3.drewN m) ⟨rfl, rfl, rfl, Nat.le_refl _, fun _ _ => rfl⟩))
  have y2 := fun (m : Nat) => (show (w3.drewN m).cell? ⟨ab, 2, none⟩ = some (.int .i64 x.nd) from d2)
  go_wp2_with fail
  refine (HW10.out _).mono ?_
  rintro e wq ⟨rfl, rfl⟩
  go_wp2_with fail
  have hg1 : decide (0 ≤ x.nd) = true := decide_eq_true (by omega)
  have hg2 : decide (x.nd < (n0 : Int)) = true := decide_eq_true (by omega)
  obtain ⟨kn, hkn⟩ := Int.eq_ofNat_of_zero_le hnd.1
  have HNd := Lib.hid (And.intro hkn hnd)
  clear hnd hkn
  go_quiet ((go_at_call 29; exact Calls.quiet_of_same (HNo.out _)))
  have HPr2 := HBq.out nq
  obtain ⟨w4, hw4⟩ : ∃ y, w3.drewN nq = y := ⟨_, rfl⟩
  rw [hw4] at HPr2 ⊢
  have HPr2 := Lib.hid HPr2
  clear hw4 d0 d1 d2 d3 d4 d5 y2 HBq
  have HZ := Lib.hid (show Below w4.heap.size w4 (w4.alloc (.cells #[.int .i64 0, .int .i64 0, .slice none 0 0] 83)) from (Below.refl _ _).alloc (Nat.le_refl _) _)
  have HPz := Lib.hid (HPr2.out.below HZ.out)
  have HZb := Lib.hid (Blk.new w4 83 #[.int .i64 0, .int .i64 0, .slice none 0 0])
  have hdr : Below w4.heap.size w4 w4.drew := ⟨rfl, rfl, rfl, Nat.le_refl _, fun _ _ => rfl⟩
  have KA := Lib.hid (HBat.out w4.drew (HPr2.out.below hdr).arg5)
  have KB := Lib.hid (HBat.out (w4.alloc (.cells #[.int .i64 0, .int .i64 0, .slice none 0 0] 83)).drew (HPz.out.below (w6 := (w4.alloc (.cells #[.int .i64 0, .int .i64 0, .slice none 0 0] 83)).drew) ⟨rfl, rfl, rfl, Nat.le_refl _, fun _ _ => rfl⟩).arg5)
  have HSw := Lib.hid (show ab < w4.heap.size from HPr2.out.box.lt)
  have d0 := HPr2.out.box.cell 0
  have d1 := HPr2.out.box.cell 1
  have d2 := HPr2.out.box.cell 2
  have d3 := HPr2.out.box.cell 3
  have d4 := HPr2.out.box.cell 4
  have d5 := HPr2.out.box.cell 5
  simp only [List.getElem?_toArray, List.getElem?_cons_zero, List.getElem?_cons_succ] at d0 d1 d2 d3 d4 d5
  rw [HXl.out] at d5
  have m0 := HPz.out.box.cell 0
  have m1 := HPz.out.box.cell 1
  have m2 := HPz.out.box.cell 2
  have m3 := HPz.out.box.cell 3
  have m4 := HPz.out.box.cell 4
  have m5 := HPz.out.box.cell 5
  simp only [List.getElem?_toArray, List.getElem?_cons_zero, List.getElem?_cons_succ] at m0 m1 m2 m3 m4 m5
  rw [HXl.out] at m5
  clear hdr
  have HBoxX := Lib.hid (show Blk w4 ab 35 #[.int .i64 x.dd, .int .i64 x.ki, .int .i64 x.nd, .int .i64 x.sg, .int .i64 x.wh, .slice x.A xl x.c] from HXl.out ▸ HPr2.out.box)
  go_wp2_with fail
  apply one_end5 (F := fun g w6 A3 n3 c3 => Pr w w6 Y sb v1 v2 pb f s s (.slice Ab n cb) n ab x ∧ Blk w6 g 83 #[.int .i64 x.nd, .int .i64 x.sg, .slice A3 n3 c3] ∧ DBat w6 (fun k => Y k ∨ (Value.slice Ab n cb).ownBlock = some k) A3 c3 (btS x) ∧ n3 = (btS x).length ∧ w4.heap.size ≤ g)
  · intro hfin
    have HFin := Lib.hid hfin
    clear hfin
    have HSx := Lib.hid (show Blk w4.drew ab 35 #[.int .i64 x.dd, .int .i64 x.ki, .int .i64 x.nd, .int .i64 x.sg, .int .i64 x.wh, .slice x.A xl x.c] from HBoxX.out.drewN 1)
    refine wp_region_held_drew (S := fun w' => Blk w' ab 35 #[.int .i64 x.dd, .int .i64 x.ki, .int .i64 x.nd, .int .i64 x.sg, .int .i64 x.wh, .slice x.A xl x.c]) (by kernel_rfl) (HSx.out) (fun hHeld => ?_)
    refine wpAnyH_take (i := 0) (v := ?_) rfl (by kernel_rfl) (by kernel_rfl) (by kernel_rfl) (fun _ _ _ h => h) (Or.inl ⟨by rfl, ?_⟩) (by assumption) ?_
    rotate_left
    · (intro w hSw; (try dsimp only at hSw); have q0 := hSw.cell 0; have q1 := hSw.cell 1; have q2 := hSw.cell 2; have q3 := hSw.cell 3; have q4 := hSw.cell 4; have q5 := hSw.cell 5; simp only [List.getElem?_toArray, List.getElem?_cons_zero, List.getElem?_cons_succ] at q0 q1 q2 q3 q4 q5; first | (go_simp; done) | (go_simp; with_reducible rfl))
    try simp only [Act.put, List.getElem_toArray, List.getElem_cons_zero, List.getElem_cons_succ, List.setIfInBounds_toArray, List.set_cons_zero, List.set_cons_succ]
    refine wpAnyH_take (i := 1) (v := ?_) rfl (by kernel_rfl) (by kernel_rfl) (by kernel_rfl) (fun _ _ _ h => h) (Or.inl ⟨by rfl, ?_⟩) (by assumption) ?_
    rotate_left
    · (intro w hSw; (try dsimp only at hSw); have q0 := hSw.cell 0; have q1 := hSw.cell 1; have q2 := hSw.cell 2; have q3 := hSw.cell 3; have q4 := hSw.cell 4; have q5 := hSw.cell 5; simp only [List.getElem?_toArray, List.getElem?_cons_zero, List.getElem?_cons_succ] at q0 q1 q2 q3 q4 q5; first | (go_simp; done) | (go_simp; with_reducible rfl))
    try simp only [Act.put, List.getElem_toArray, List.getElem_cons_zero, List.getElem_cons_succ, List.setIfInBounds_toArray, List.set_cons_zero, List.set_cons_succ]
    refine wpAnyH_take (i := 2) (v := ?_) rfl (by kernel_rfl) (by kernel_rfl) (by kernel_rfl) (fun _ _ _ h => h) (Or.inl ⟨by rfl, ?_⟩) (by assumption) ?_
    rotate_left
    · (intro w hSw; (try dsimp only at hSw); have q0 := hSw.cell 0; have q1 := hSw.cell 1; have q2 := hSw.cell 2; have q3 := hSw.cell 3; have q4 := hSw.cell 4; have q5 := hSw.cell 5; simp only [List.getElem?_toArray, List.getElem?_cons_zero, List.getElem?_cons_succ] at q0 q1 q2 q3 q4 q5; first | (go_simp; done) | (go_simp; with_reducible rfl))
    try simp only [Act.put, List.getElem_toArray, List.getElem_cons_zero, List.getElem_cons_succ, List.setIfInBounds_toArray, List.set_cons_zero, List.set_cons_succ]
    refine wpAnyH_take (i := 3) (v := ?_) rfl (by kernel_rfl) (by kernel_rfl) (by kernel_rfl) (fun _ _ _ h => h) (Or.inl ⟨by rfl, ?_⟩) (by assumption) ?_
    rotate_left
    · (intro w hSw; (try dsimp only at hSw); have q0 := hSw.cell 0; have q1 := hSw.cell 1; have q2 := hSw.cell 2; have q3 := hSw.cell 3; have q4 := hSw.cell 4; have q5 := hSw.cell 5; simp only [List.getElem?_toArray, List.getElem?_cons_zero, List.getElem?_cons_succ] at q0 q1 q2 q3 q4 q5; first | (go_simp; done) | (go_simp; with_reducible rfl))
    try simp only [Act.put, List.getElem_toArray, List.getElem_cons_zero, List.getElem_cons_succ, List.setIfInBounds_toArray, List.set_cons_zero, List.set_cons_succ]
    refine wpAnyH_take (i := 4) (v := ?_) rfl (by kernel_rfl) (by kernel_rfl) (by kernel_rfl) (fun _ _ _ h => h) (Or.inl ⟨by rfl, ?_⟩) (by assumption) ?_
    rotate_left
    · (intro w hSw; (try dsimp only at hSw); have q0 := hSw.cell 0; have q1 := hSw.cell 1; have q2 := hSw.cell 2; have q3 := hSw.cell 3; have q4 := hSw.cell 4; have q5 := hSw.cell 5; simp only [List.getElem?_toArray, List.getElem?_cons_zero, List.getElem?_cons_succ] at q0 q1 q2 q3 q4 q5; first | (go_simp; done) | (go_simp; with_reducible rfl))
    try simp only [Act.put, List.getElem_toArray, List.getElem_cons_zero, List.getElem_cons_succ, List.setIfInBounds_toArray, List.set_cons_zero, List.set_cons_succ]
    refine wpAnyH_ready (rs := [5, 7]) (by kernel_rfl) (by simp) ?_
    refine AllReadyH.cons rfl (fun K hK => ?_) (AllReadyH.cons rfl (fun K hK => ?_) AllReadyH.nil)
    · go_simp
      go_at_call 28
      refine KA.out.mono ?_
      rintro e w5 ⟨A3, n3, c3, rfl, hP⟩
      have HPa := Lib.hid hP
      refine hK.out _ _ (HSx.out.below hP.low HSx.out.lt) (fun hHeld => ?_)
      clear hK K
      try simp only [Act.put, List.getElem_toArray, List.getElem_cons_zero, List.getElem_cons_succ, List.setIfInBounds_toArray, List.set_cons_zero, List.set_cons_succ]
      refine wpAnyH_take (i := 6) (v := ?_) rfl (by kernel_rfl) (by kernel_rfl) (by kernel_rfl) (fun _ _ _ h => h) (Or.inl ⟨by rfl, ?_⟩) (by assumption) ?_
      rotate_left
      · (intro w hSw; first | (go_simp; done) | (go_simp; with_reducible rfl))
      try simp only [Act.put, List.getElem_toArray, List.getElem_cons_zero, List.getElem_cons_succ, List.setIfInBounds_toArray, List.set_cons_zero, List.set_cons_succ]
      refine wpAnyH_ready (rs := [7]) (by kernel_rfl) (by simp) ?_
      refine AllReadyH.cons rfl (fun K hK => ?_) AllReadyH.nil
      go_simp
      refine hK.out _ _ ((HSx.out.below hP.low HSx.out.lt).alloc _) (fun hHeld => ?_)
      clear hK K
      try simp only [Act.put, List.getElem_toArray, List.getElem_cons_zero, List.getElem_cons_succ, List.setIfInBounds_toArray, List.set_cons_zero, List.set_cons_succ]
      refine wpAnyH_ready (rs := [8]) (by kernel_rfl) (by simp) ?_
      refine AllReadyH.cons rfl (fun K hK => ?_) AllReadyH.nil
      go_simp
      refine hK.out _ _ ((HSx.out.below HPa.out.low HSx.out.lt).alloc _) (fun hHeld => ?_)
      clear hK K
      try simp only [Act.put, List.getElem_toArray, List.getElem_cons_zero, List.getElem_cons_succ, List.setIfInBounds_toArray, List.set_cons_zero, List.set_cons_succ]
      refine wpAnyH_done (by kernel_rfl) ?_ _
      obtain ⟨w6, hw6⟩ : ∃ w6, w5.alloc (.cells #[.int .i64 x.nd, .int .i64 x.sg, .slice A3 n3 c3] 83) = w6 := ⟨_, rfl⟩
      obtain ⟨g, hg⟩ : ∃ g, w5.heap.size = g := ⟨_, rfl⟩
      have hend := vote_endA HPr2.out HPa.out hw6 hg
      rw [hw6, hg]
      exact HFin.out g w6 A3 n3 c3 hend
    · go_simp
      refine hK.out _ _ ((HBoxX.out.alloc _).drewN 1) (fun hHeld => ?_)
      clear hK K
      try simp only [Act.put, List.getElem_toArray, List.getElem_cons_zero, List.getElem_cons_succ, List.setIfInBounds_toArray, List.set_cons_zero, List.set_cons_succ]
      refine wpAnyH_ready (rs := [5]) (by kernel_rfl) (by simp) ?_
      refine AllReadyH.cons rfl (fun K hK => ?_) AllReadyH.nil
      go_simp
      go_at_call 28
      refine KB.out.mono ?_
      rintro e w5 ⟨A3, n3, c3, rfl, hP⟩
      have HPb := Lib.hid hP
      have HSz := Lib.hid (((HBoxX.out.alloc (.cells #[.int .i64 0, .int .i64 0, .slice none 0 0] 83)).drewN 1).below hP.low ((HBoxX.out.alloc (.cells #[.int .i64 0, .int .i64 0, .slice none 0 0] 83)).drewN 1).lt)
      refine hK.out _ _ HSz.out (fun hHeld => ?_)
      clear hK K
      try simp only [Act.put, List.getElem_toArray, List.getElem_cons_zero, List.getElem_cons_succ, List.setIfInBounds_toArray, List.set_cons_zero, List.set_cons_succ]
      refine wpAnyH_take (i := 6) (v := ?_) rfl (by kernel_rfl) (by kernel_rfl) (by kernel_rfl) (fun _ _ _ h => h) (Or.inl ⟨by rfl, ?_⟩) (by assumption) ?_
      rotate_left
      · (intro w hSw; first | (go_simp; done) | (go_simp; with_reducible rfl))
      try simp only [Act.put, List.getElem_toArray, List.getElem_cons_zero, List.getElem_cons_succ, List.setIfInBounds_toArray, List.set_cons_zero, List.set_cons_succ]
      refine wpAnyH_ready (rs := [8]) (by kernel_rfl) (by simp) ?_
      refine AllReadyH.cons rfl (fun K hK => ?_) AllReadyH.nil
      have hz3 := (HZb.out.drewN 1).below HPb.out.low HZb.out.lt
      have y0 := hz3.cell 0
      have y1 := hz3.cell 1
      have y2 := hz3.cell 2
      have fz := fun i => hz3.frozen i
      simp only [List.getElem?_toArray, List.getElem?_cons_zero, List.getElem?_cons_succ] at y0 y1 y2
      go_simp
      have hnab : ab ≠ w4.heap.size := by have := HPr2.out.box.lt; omega
      refine hK.out _ _ (((HSz.out.far hnab _).far hnab _).far hnab _) (fun hHeld => ?_)
      clear hK K
      try simp only [Act.put, List.getElem_toArray, List.getElem_cons_zero, List.getElem_cons_succ, List.setIfInBounds_toArray, List.set_cons_zero, List.set_cons_succ]
      refine wpAnyH_done (by kernel_rfl) ?_ _
      obtain ⟨w6, hw6⟩ : ∃ w6, ((w5.setCell ⟨w4.heap.size, 0, none⟩ (.int .i64 x.nd)).setCell ⟨w4.heap.size, 1, none⟩ (.int .i64 x.sg)).setCell ⟨w4.heap.size, 2, none⟩ (.slice A3 n3 c3) = w6 := ⟨_, rfl⟩
      obtain ⟨g, hg⟩ : ∃ g, w4.heap.size = g := ⟨_, rfl⟩
      have hend := vote_endB HPr2.out HPb.out hw6 hg
      rw [hw6, hg]
      exact HFin.out g w6 A3 n3 c3 hend
  · intro g w6 A3 n3 c3 hf
    obtain ⟨hp6, hb6, hd6, hn3', hg6⟩ := hf
    have HP6 := Lib.hid hp6
    have HG := Lib.hid hb6
    have HDb := Lib.hid hd6
    have HN3 := Lib.hid hn3'
    have d1 := HP6.out.box.cell 1
    simp only [List.getElem?_toArray, List.getElem?_cons_zero, List.getElem?_cons_succ] at d1
    clear hp6 hb6 hd6 hn3' hg6 m0 m1 m2 m3 m4 m5 HBoxX HZ HPz HZb KA KB HSw HPr2 HPr d0 d2 d3 d4 d5 hg1 hg2
    have g4 : (x.ki == 4) = false := by simp [hki.out.1]
    have g45 : (x.ki == 5) = false := by simp [hki.out.2]
    have HPn := HP6
    have HVS := Lib.hid (show s.vote x.ki x.nd x.sg (btS x) = (false, s) from by unfold Sx.vote; rw [if_neg hki.out.1, if_neg hki.out.2])
    clear HP6 HG HDb d1
    have e0 := HPn.out.box.cell 1
    have e1 := HPn.out.box.cell 2
    have e2 := HPn.out.box.cell 3
    simp only [List.getElem?_toArray, List.getElem?_cons_zero, List.getElem?_cons_succ] at e0 e1 e2
    have HPc := Lib.hid (svote_any HPn.out.sl x.ki x.nd x.sg (c := cb) (has_rows HPn.out.row) HLn.out (by omega))
    rw [HVS.out] at HPc
    have gmb : (false == false) = true := by simp
    go_wp2_with fail
    refine HPc.out.mono ?_
    rintro e w6 ⟨rfl, hp⟩
    obtain ⟨u1, u2, hm⟩ := HPn.out.mid hp
    have HM := Lib.hid (show Mid w w6 Y sb v1 v2 u1 u2 pb f (actS n0 x s) (.slice Ab n cb) n from by rw [HAct.out, HVS.out]; exact hm)
    clear hp hm HPc e0 e1 e2
    go_wp2_with fail
    go_loopw [15, 112] (fun _ y wr => ∃ (k : Nat), y = .int .i64 k ∧ k ≤ n ∧ Hid (Mid w wr Y sb v1 v2 u1 u2 pb f (actS n0 x s) (.slice Ab n cb) n)) (fun _ y _ => n - (intOf y).toNat)
    case atStart => exact ⟨0, rfl, Nat.zero_le _, HM⟩
    case round =>
      clear HM
      obtain ⟨k, rfl, hk, HM⟩ := hrel
      by_cases hlt : k < n
      · obtain ⟨g, e0, e1, e2, e3, e4, e5, rfl, c0, c1, c2, c3, c4, c5, hfr, hm⟩ := HM.out.cells hlt
        have f0 := hfr (k * 6)
        have f1 := hfr (k * 6 + 1)
        have f2 := hfr (k * 6 + 2)
        have f3 := hfr (k * 6 + 3)
        have f4 := hfr (k * 6 + 4)
        have f5 := hfr (k * 6 + 5)
        have HM2 := Lib.hid hm
        clear hfr hm
        go_wp2_with fail
        go_roundw
        case rel => exact ⟨k + 1, by go_num, by omega, HM2⟩
        case measure => simp [intOf]; omega
      · obtain rfl : k = n := by omega
        have HRt := Lib.hid (right14_any HM.out.sl HM.out.ds)
        go_wp2_with fail
        refine HRt.out.mono ?_
        rintro e w9 ⟨rfl, hb9⟩
        have HM9 := Lib.hid (HM.out.below hb9).done
        clear hb9
        go_wp2_with fail
        go_ret
        exact ⟨rfl, HM9.out⟩
end
end Go.Proofs.Ytcebnmhkbhhfiaa
namespace Go.Proofs.Ytcebnmhkbhhfiaa
open Go.RowKit
set_option linter.unusedSimpArgs false

theorem actS_len (n : Nat) (x : Ac) {s : Sx} (h : s.P.length = n) : (actS n x s).P.length = n := by
  unfold actS
  split
  · unfold Sx.pre
    split <;> exact h
  · split
    · unfold Sx.vote
      split
      · exact (votS_len _ _ _ _).trans h
      · split <;> exact h
    · exact List.length_replicate
section
variable {w : World} {Y : Nat → Prop} {sb pb n0 : Nat} {v1 v2 : Value} {f : Int} {s : Sx} {x : Ac}
theorem do14_any (h : DoIn w Y sb v1 v2 pb f s n0 x) :
    Calls Try.prog 8 #[.pointer (some ⟨sb, 0, none⟩), .pointer (some ⟨pb, 0, none⟩), .int .i64 f, .agg #[.int .i64 x.dd, .int .i64 x.ki, .int .i64 x.nd, .int .i64 x.sg, .int .i64 x.wh, .slice x.A x.l.length x.c]] w fun e w' => e = .returned (.bool true) ∧ DoPost w w' Y sb v1 v2 pb f (actS n0 x s) := by
  have k0 := Int.emod_nonneg x.dd (show (10 : Int) ≠ 0 by omega)
  have k1 := Int.emod_lt_of_pos x.dd (show (0 : Int) < 10 by omega)
  by_cases h0 : x.dd % 10 = 0
  · cases hc : s.ch with
    | none => exact do_pre1 h h0 hc
    | some bb => exact do_pre2 h h0 hc
  · by_cases h9 : x.dd % 10 = 9
    · exact do_reset h h9
    · have hk1 : 1 ≤ x.dd % 10 ∧ x.dd % 10 ≤ 8 := by omega
      by_cases hlo : x.nd < 0
      · exact do_low h rfl hk1 hlo
      · by_cases hhi : (n0 : Int) ≤ x.nd
        · exact do_high h rfl hk1 hhi
        · have hnd : 0 ≤ x.nd ∧ x.nd < (n0 : Int) := by omega
          by_cases h4 : x.ki = 4
          · exact do_k4 h rfl hk1 hnd (Lib.hid h4)
          · by_cases h5 : x.ki = 5
            · exact do_k5 h rfl hk1 hnd (Lib.hid h5)
            · exact do_k0 h rfl hk1 hnd (Lib.hid ⟨h4, h5⟩)
theorem Ds.kept2 {w' : World} {T : Nat → Prop} (h : Ds w Y pb s) (ht : Turn T w w') (hT : ∀ k, T k → Y k) (hp : ¬ T pb) : Ds w' Y pb s := by
  obtain ⟨A, c, r1, r2, M1, M2, a, b, d, e⟩ := h.mem
  have ht2 : Turn Y w w' := ht.mono (fun k _ hk => hT k hk)
  exact ⟨A, c, r1, r2, M1, M2, ht.blk a hp, b.kept ht2, d.kept ht2, e.kept ht2⟩
end
/-- A slot and the document's, made since w. -/
structure P14s (w : World) (sb : Nat) (v1 v2 : Value) (pb : Nat) (f : Int) (s : Sx) (n : Nat) (Y : Nat → Prop) (wr : World) : Prop where
  sl : Sl wr (fun _ => True) sb v1 v2 f s
  ds : Ds wr Y pb s
  zn : ∀ k, SZ sb v1 v2 k → w.heap.size ≤ k
  zp : w.heap.size ≤ pb
  low : Below w.heap.size w wr
  len : s.P.length = n
def Y1 (sb : Nat) (v1 v2 : Value) (pb : Nat) (k : Nat) : Prop := SZ sb v1 v2 k ∨ k = pb
section
variable {w wr wz : World} {Y : Nat → Prop} {sb pb db qb n : Nat} {v1 v2 y1 y2 : Value} {f : Int} {s t : Sx} {x : Ac}
theorem P14s.below (h : P14s w sb v1 v2 pb f s n Y wr) (hb : Below wr.heap.size wr wz) : P14s w sb v1 v2 pb f s n Y wz := ⟨h.sl.below hb, h.ds.below hb, h.zn, h.zp, h.low.trans (hb.mono h.low.size), h.len⟩
theorem P14s.input (h : P14s w sb v1 v2 pb f s n Y wr) (hx : x.Came w) (h1 : ∀ k, SZ sb v1 v2 k → Y k) (h2 : Y pb) (h3 : ∀ k, Y k → k < wr.heap.size) (h4 : ∀ k, Y k → w.heap.size ≤ k) : DoIn wr Y sb v1 v2 pb f s n x :=
  ⟨h.sl, h.ds, h1, h2, h3, (hx.r.has.below h.low (Nat.le_refl _)).more h.low.size, fun ad ha hl hy => by
    have := h4 _ hy
    have := req_block hx.r.has ha hl
    omega, hx.r.le, hx.r.most, hx.r.nil, hx.dd, hx.ki, hx.nd, hx.sg, hx.wh, h.len⟩
theorem P14s.one (h : P14s w sb v1 v2 pb f s n (Y1 sb v1 v2 pb) wr) (hp : DoPost wr wz (Y1 sb v1 v2 pb) sb v1 v2 pb f (actS n x s)) : ∃ u1 u2, P14s w sb u1 u2 pb f (actS n x s) n (Y1 sb u1 u2 pb) wz := by
  obtain ⟨u1, u2, a, b, c, d⟩ := hp
  refine ⟨u1, u2, a, b.mono (fun k _ hk => ?_), fun k hk => ?_, h.zp, h.low.trans (d.below h.low.size (fun k hk e => ?_)), actS_len n x h.len⟩
  · rcases hk with hk | hk
    · exact Or.inr hk
    · exact Or.inl (Or.inr hk)
  · rcases c k hk with c | c
    · exact h.zn k c
    · exact Nat.le_trans h.low.size c
  · rcases e with e | e
    · have := h.zn k e; omega
    · have := h.zp; omega
def Y2 (sb : Nat) (v1 v2 : Value) (pb db : Nat) (y1 y2 : Value) (qb : Nat) (k : Nat) : Prop := Y1 sb v1 v2 pb k ∨ Y1 db y1 y2 qb k
/-- Two pairs of them. -/
structure P14t (w : World) (sb : Nat) (v1 v2 : Value) (pb : Nat) (s : Sx) (db : Nat) (y1 y2 : Value) (qb : Nat) (t : Sx) (f : Int) (n : Nat) (wr : World) : Prop where
  a : P14s w sb v1 v2 pb f s n (Y2 sb v1 v2 pb db y1 y2 qb) wr
  b : P14s w db y1 y2 qb f t n (Y2 sb v1 v2 pb db y1 y2 qb) wr
  ap : ∀ k, SZ sb v1 v2 k → ¬ SZ db y1 y2 k
  ne : pb ≠ qb
theorem P14t.below (h : P14t w sb v1 v2 pb s db y1 y2 qb t f n wr) (hb : Below wr.heap.size wr wz) : P14t w sb v1 v2 pb s db y1 y2 qb t f n wz := ⟨h.a.below hb, h.b.below hb, h.ap, h.ne⟩
theorem Ds.offS {Z : Nat → Prop} (h : Ds wr Y qb t) (hs : Sl wr Z sb v1 v2 f s) : ¬ SZ sb v1 v2 qb := by
  obtain ⟨A, c, r1, r2, M1, M2, a, _⟩ := h.mem
  exact hs.off a (by decide) (by decide)
theorem P14t.lt (h : P14t w sb v1 v2 pb s db y1 y2 qb t f n wr) (k : Nat) (hk : Y2 sb v1 v2 pb db y1 y2 qb k) : k < wr.heap.size ∧ w.heap.size ≤ k := by
  rcases hk with (hk | hk) | (hk | hk)
  · exact ⟨h.a.sl.lt hk, h.a.zn k hk⟩
  · subst hk; exact ⟨h.a.ds.lt, h.a.zp⟩
  · exact ⟨h.b.sl.lt hk, h.b.zn k hk⟩
  · subst hk; exact ⟨h.b.ds.lt, h.b.zp⟩
theorem P14t.input (h : P14t w sb v1 v2 pb s db y1 y2 qb t f n wr) (hx : x.Came w) : DoIn wr (Y2 sb v1 v2 pb db y1 y2 qb) db y1 y2 qb f t n x :=
  h.b.input hx (fun _ hk => Or.inr (Or.inl hk)) (Or.inr (Or.inr rfl)) (fun k hk => (h.lt k hk).1) (fun k hk => (h.lt k hk).2)
theorem P14t.next (h : P14t w sb v1 v2 pb s db y1 y2 qb t f n wr) (hp : DoPost wr wz (Y2 sb v1 v2 pb db y1 y2 qb) db y1 y2 qb f (actS n x t)) : ∃ u1 u2, P14t w sb v1 v2 pb s db u1 u2 qb (actS n x t) f n wz := by
  obtain ⟨u1, u2, a, b, c, d⟩ := hp
  have hlow : Below w.heap.size w wz := h.b.low.trans (d.below h.b.low.size (fun k hk e => by
    rcases e with e | e
    · have := h.b.zn k e; omega
    · have := h.b.zp; omega))
  have hpb : ¬ (SZ db y1 y2 pb ∨ pb = qb) := fun e => e.elim (h.a.ds.offS h.b.sl) h.ne
  refine ⟨u1, u2, ⟨h.a.sl.kept d (fun k hk e => ?_) (fun u l hu g hg e => ?_), ?_, h.a.zn, h.a.zp, hlow, h.a.len⟩, ⟨a, b.mono (fun k _ hk => ?_), fun k hk => ?_, h.b.zp, hlow, actS_len n x h.b.len⟩, fun k hk e => ?_, h.ne⟩
  · rcases e with e | e
    · exact h.ap k hk e
    · exact h.b.ds.offS h.a.sl (e ▸ hk)
  · rcases e with e | e
    · exact h.b.sl.apart hu hg e
    · obtain ⟨A, c, r1, r2, M1, M2, a, _⟩ := h.b.ds.mem
      exact hu.off a (by decide) (e ▸ hg)
  · have h1 : Ds wr (fun k => Y2 sb v1 v2 pb db y1 y2 qb k ∨ wr.heap.size ≤ k) pb s := h.a.ds.mono (fun k hk e => e.elim id (fun e => by omega))
    refine (h1.kept2 d (fun k hk => Or.inl (Or.inr hk)) hpb).mono (fun k _ hk => ?_)
    rcases hk with hk | (hk | hk)
    · exact Or.inl (Or.inl hk)
    · rcases c k hk with c | c
      · exact Or.inl (Or.inr (Or.inl c))
      · exact Or.inr c
    · exact Or.inl (Or.inr (Or.inr hk))
  · rcases hk with hk | (hk | hk)
    · exact Or.inl (Or.inl hk)
    · exact Or.inr hk
    · exact Or.inl (Or.inr (Or.inr hk))
  · rcases c k hk with c | c
    · exact h.b.zn k c
    · exact Nat.le_trans h.b.low.size c
  · rcases c k e with c | c
    · exact h.ap k hk c
    · have := h.a.sl.lt hk; omega
/-- The clone, and the copy of the document's. -/
theorem P14s.two {cs : Array Value} (h : P14s w sb v1 v2 pb f s n (Y1 sb v1 v2 pb) wr) (hs : Sl wz (fun _ => True) db y1 y2 f s) (hz : ∀ k, SZ db y1 y2 k → wr.heap.size ≤ k) (hb : Below wr.heap.size wr wz) (hc : Blk wz pb 32 cs) :
    P14t w sb v1 v2 pb s db y1 y2 wz.heap.size s f n (wz.alloc (.cells cs 32)) := by
  have hb2 : Below wz.heap.size wz (wz.alloc (.cells cs 32)) := (Below.refl _ _).alloc (Nat.le_refl _) _
  have h1 := (h.below hb).below hb2
  have hyz : ∀ k, k < wr.heap.size → Y2 sb v1 v2 pb db y1 y2 wz.heap.size k → Y1 sb v1 v2 pb k := fun k hk e => by
    rcases e with e | (e | e)
    · exact e
    · have := hz k e; omega
    · have := hb.size; omega
  have hd : Ds (wz.alloc (.cells cs 32)) (Y2 sb v1 v2 pb db y1 y2 wz.heap.size) pb s := ((h.ds.mono hyz).below hb).below hb2
  have hsz := h.low.size
  refine ⟨⟨h1.sl, hd, h1.zn, h1.zp, h1.low, h1.len⟩, ⟨hs.below hb2, ?_, fun k hk => Nat.le_trans hsz (hz k hk), Nat.le_trans hsz hb.size, h1.low, h1.len⟩, fun k hk e => ?_, ?_⟩
  · obtain ⟨A, c, r1, r2, M1, M2, a, b, d, e⟩ := ((h.ds.mono hyz).below hb).mem
    have hcs : cs = #[.bool s.ch.isSome, .slice A (s.ch.getD []).length c, r1, r2] := by
      unfold Blk at a hc
      rw [hc] at a
      injection a with a
      injection a
    subst hcs
    exact ⟨A, c, r1, r2, M1, M2, Blk.new _ _ _, b.below hb2, d.below hb2, e.below hb2⟩
  · have := h.sl.lt hk; have := hz k e; omega
  · have := h.ds.lt; have := hb.size; omega
end
end Go.Proofs.Ytcebnmhkbhhfiaa
namespace Go.Proofs.Ytcebnmhkbhhfiaa
open Go.RowKit
set_option linter.unusedSimpArgs false
set_option linter.unusedVariables false

set_option maxRecDepth 100000 in
set_option maxHeartbeats 8000000 in
theorem slotPlays_walk (a0 : Int) (A1 : Option Addr) (c1 : Nat) (l1 : List Ac) (A2 : Option Addr) (c2 : Nat) (l2 : List Ac) (w : World) (w0 : (Lit.int .i64 a0).wf = true) (w1 : IsActs w A1 l1 c1) (w2 : IsActs w A2 l2 c2) :
    Calls Try.prog 3 #[.int .i64 a0, .slice A1 l1.length c1, .slice A2 l2.length c2] w fun e w' => e = .returned (.bool true) ∧ Below w.heap.size w w' := by
  have HA1 := Lib.hid w1.has
  have HF1 := Lib.hid w1.came
  have HA2 := Lib.hid w2.has
  have HF2 := Lib.hid w2.came
  obtain ⟨n1, hn1⟩ : ∃ n, l1.length = n := ⟨_, rfl⟩
  obtain ⟨n2, hn2⟩ : ∃ n, l2.length = n := ⟨_, rfl⟩
  have HM1 := Lib.hid (show n1 ≤ maxLen by rw [← hn1]; exact Nat.le_trans w1.le w1.most)
  have HM2 := Lib.hid (show n2 ≤ maxLen by rw [← hn2]; exact Nat.le_trans w2.le w2.most)
  rw [hn1, hn2]
  have HN1 := Lib.hid hn1
  have HN2 := Lib.hid hn2
  clear w0 w1 w2 hn1 hn2
  by_cases hf : 1 ≤ a0 ∧ a0 ≤ 4
  · obtain ⟨p, hp⟩ : ∃ p : Nat, (p : Int) = 3 * a0 + 1 := ⟨(3 * a0 + 1).toNat, by omega⟩
    have HNew := Lib.hid (fun w => rs_new (f := a0) (n := p) hf.1 hf.2 hp w w (Below.refl _ _))
    have HDv := Lib.hid (show dvs 0 (Sx.new p).P = [] ∧ dvs 0 (Sx.new p).C = [] ∧ (Sx.new p).P.length = p from ⟨dvs_off _ _, dvs_off _ _, List.length_replicate⟩)
    have gf1 : decide (a0 < 1) = false := decide_eq_false (by omega)
    have gf2 : decide (4 < a0) = false := decide_eq_false (by omega)
    clear hf hp
    go_enter Try.func3, Try.ntmps3
    go_wp2_with fail
    refine (HNew.out _).mono ?_
    rintro e w1 ⟨sb, v1, v2, rfl, hR, -, -⟩
    have HR := Lib.hid hR
    clear hR
    have HJ := Lib.hid (show P14s w sb v1 v2 w1.heap.size a0 (Sx.new p) p (Y1 sb v1 v2 w1.heap.size) (w1.alloc (.cells #[.bool false, .slice none 0 0, .slice none 0 0, .slice none 0 0] 32)) from by
      have hb : Below w1.heap.size w1 (w1.alloc (.cells #[.bool false, .slice none 0 0, .slice none 0 0, .slice none 0 0] 32)) := (Below.refl _ _).alloc (Nat.le_refl _) _
      refine ⟨HR.out.sl.below hb, ⟨none, 0, .slice none 0 0, .slice none 0 0, [], [], Blk.new _ _ _, DBat.none _ _, ?_, ?_⟩, HR.out.zn, HR.out.low.size, HR.out.low.trans (hb.mono HR.out.low.size), HDv.out.2.2⟩
      · rw [HDv.out.1]; exact DRow.nought _ _
      · rw [HDv.out.2.1]; exact DRow.nought _ _)
    obtain ⟨pb, hpb⟩ : ∃ y, w1.heap.size = y := ⟨_, rfl⟩
    go_wp2_with fail
    rw [hpb] at HJ
    clear hpb HR
    go_loopw [10] (fun x wr => ∃ (k : Nat) (v1 v2 : Value) (s : Sx), x = .int .i64 k ∧ k ≤ n1 ∧ k ≤ 60 ∧ Hid (P14s w sb v1 v2 pb a0 s p (Y1 sb v1 v2 pb) wr)) (fun x _ => n1 - (intOf x).toNat)
    case atStart => exact ⟨0, _, _, _, rfl, Nat.zero_le _, Nat.zero_le _, HJ⟩
    case round =>
      clear HJ HDv
      obtain ⟨k, v1, v2, s, rfl, hk, hk2, HJ⟩ := hrel
      by_cases hlt : k < n1 ∧ k < 60
      · obtain ⟨hlt1, hlt2⟩ := hlt
        obtain ⟨ad, rfl, hab, hat⟩ := act_at (HA1.out.below HJ.out.low (Nat.le_refl _)) (show k < l1.length by rw [HN1.out]; exact hlt1)
        obtain ⟨x, hx⟩ : ∃ x, l1[k]'(by rw [HN1.out]; exact hlt1) = x := ⟨_, rfl⟩
        have HFx := Lib.hid (show Ac.Came w x from hx ▸ HF1.out _ (List.getElem_mem _))
        rw [hx] at hat
        obtain ⟨h0, h1, h2, h3, h4, h5⟩ := hat
        have HD := Lib.hid (do14_any (HJ.out.input HFx.out (fun _ h => Or.inl h) (Or.inr rfl) (fun k hk => hk.elim (fun h => HJ.out.sl.lt h) (fun h => h ▸ HJ.out.ds.lt)) (fun k hk => hk.elim (fun h => HJ.out.zn k h) (fun h => h ▸ HJ.out.zp))))
        obtain ⟨xl, hxl⟩ : ∃ y, x.l.length = y := ⟨_, rfl⟩
        rw [hxl] at h5 HD
        clear hx hab hxl
        go_wp2_with fail
        refine HD.out.mono ?_
        rintro e w3 ⟨rfl, hdo⟩
        obtain ⟨u1, u2, hj⟩ := HJ.out.one hdo
        have HJ3 := Lib.hid hj
        clear hdo hj h0 h1 h2 h3 h4 h5
        go_wp2_with fail
        go_roundw
        case rel => exact ⟨k + 1, u1, u2, _, by go_num, by omega, by omega, HJ3⟩
        case measure => simp [intOf]; omega
      · have hend : (decide ((k : Int) < (n1 : Int)) && decide ((k : Int) < 60)) = false := by simp; omega
        by_cases hk1 : k < n1
        · go_wp2_with fail
          refine (sclone_any HJ.out.sl).mono ?_
          rintro e w3 ⟨db, y1, y2, rfl, hs3, hz3, hb3⟩
          obtain ⟨A, c, r1, r2, M1, M2, q1, q2, q3, q4⟩ := ((HJ.out.below hb3).ds).mem
          have HTw := Lib.hid (HJ.out.two hs3 hz3 hb3 q1)
          obtain ⟨B1, k1, rfl, -, -⟩ := own_slice q3.own
          obtain ⟨B2, k2, rfl, -, -⟩ := own_slice q4.own
          obtain ⟨bo, hbo⟩ : ∃ y, s.ch.isSome = y := ⟨_, rfl⟩
          obtain ⟨l0, hl0⟩ : ∃ y, (s.ch.getD []).length = y := ⟨_, rfl⟩
          obtain ⟨l1', hl1⟩ : ∃ y, (dvs 0 s.P).length = y := ⟨_, rfl⟩
          obtain ⟨l2', hl2⟩ : ∃ y, (dvs 0 s.C).length = y := ⟨_, rfl⟩
          rw [hbo, hl0, hl1, hl2] at q1 HTw
          have e0 := q1.cell 0
          have e1 := q1.cell 1
          have e2 := q1.cell 2
          have e3 := q1.cell 3
          simp only [List.getElem?_toArray, List.getElem?_cons_zero, List.getElem?_cons_succ] at e0 e1 e2 e3
          obtain ⟨qb, hqb⟩ : ∃ qb, w3.heap.size = qb := ⟨_, rfl⟩
          clear hs3 hz3 hb3 q1 q2 q3 q4 hbo hl0 hl1 hl2
          go_wp2_with fail
          rw [hqb] at HTw
          clear hqb e0 e1 e2 e3 HJ hend
          go_loopw [13] (fun x wr => ∃ (j : Nat) (y1 y2 : Value) (t : Sx), x = .int .i64 j ∧ j ≤ n2 ∧ j ≤ 40 ∧ Hid (P14t w sb v1 v2 pb s db y1 y2 qb t a0 p wr)) (fun x _ => n2 - (intOf x).toNat)
          case atStart => exact ⟨0, _, _, _, rfl, Nat.zero_le _, Nat.zero_le _, HTw⟩
          case round =>
            clear HTw
            obtain ⟨j, y1, y2, t, rfl, hj, hj2, HQ⟩ := hrel
            by_cases hjt : j < n2 ∧ j < 40
            · obtain ⟨hjt1, hjt2⟩ := hjt
              obtain ⟨ad, rfl, hab, hat⟩ := act_at (HA2.out.below HQ.out.a.low (Nat.le_refl _)) (show j < l2.length by rw [HN2.out]; exact hjt1)
              obtain ⟨x, hx⟩ : ∃ x, l2[j]'(by rw [HN2.out]; exact hjt1) = x := ⟨_, rfl⟩
              have HFx := Lib.hid (show Ac.Came w x from hx ▸ HF2.out _ (List.getElem_mem _))
              rw [hx] at hat
              obtain ⟨h0, h1, h2, h3, h4, h5⟩ := hat
              have HD := Lib.hid (do14_any (HQ.out.input HFx.out))
              obtain ⟨xl, hxl⟩ : ∃ y, x.l.length = y := ⟨_, rfl⟩
              rw [hxl] at h5 HD
              clear hx hab hxl
              go_wp2_with fail
              refine HD.out.mono ?_
              rintro e w6 ⟨rfl, hdo⟩
              obtain ⟨u1, u2, hj⟩ := HQ.out.next hdo
              have HQ6 := Lib.hid hj
              clear hdo hj h0 h1 h2 h3 h4 h5
              go_wp2_with fail
              go_roundw
              case rel => exact ⟨j + 1, u1, u2, _, by go_num, by omega, by omega, HQ6⟩
              case measure => simp [intOf]; omega
            · have hend2 : (decide ((j : Int) < (n2 : Int)) && decide ((j : Int) < 40)) = false := by simp; omega
              have HR1 := Lib.hid (right14_any HQ.out.a.sl HQ.out.a.ds)
              by_cases hj1 : j < n2
              · go_wp2_with fail
                refine HR1.out.mono ?_
                rintro e w6 ⟨rfl, hb6⟩
                have HQ6 := Lib.hid (HQ.out.below hb6)
                clear hb6
                go_wp2_with fail
                refine (wakes14_any _).mono ?_
                rintro e w9 ⟨rfl, hb9⟩
                go_wp2_with fail
                go_ret
                exact ⟨rfl, (HQ6.out.below hb9).a.low⟩
              · go_wp2_with fail
                refine HR1.out.mono ?_
                rintro e w6 ⟨rfl, hb6⟩
                have HQ6 := Lib.hid (HQ.out.below hb6)
                clear hb6
                go_wp2_with fail
                refine (wakes14_any _).mono ?_
                rintro e w9 ⟨rfl, hb9⟩
                go_wp2_with fail
                go_ret
                exact ⟨rfl, (HQ6.out.below hb9).a.low⟩
        · go_wp2_with fail
          refine (sclone_any HJ.out.sl).mono ?_
          rintro e w3 ⟨db, y1, y2, rfl, hs3, hz3, hb3⟩
          obtain ⟨A, c, r1, r2, M1, M2, q1, q2, q3, q4⟩ := ((HJ.out.below hb3).ds).mem
          have HTw := Lib.hid (HJ.out.two hs3 hz3 hb3 q1)
          obtain ⟨B1, k1, rfl, -, -⟩ := own_slice q3.own
          obtain ⟨B2, k2, rfl, -, -⟩ := own_slice q4.own
          obtain ⟨bo, hbo⟩ : ∃ y, s.ch.isSome = y := ⟨_, rfl⟩
          obtain ⟨l0, hl0⟩ : ∃ y, (s.ch.getD []).length = y := ⟨_, rfl⟩
          obtain ⟨l1', hl1⟩ : ∃ y, (dvs 0 s.P).length = y := ⟨_, rfl⟩
          obtain ⟨l2', hl2⟩ : ∃ y, (dvs 0 s.C).length = y := ⟨_, rfl⟩
          rw [hbo, hl0, hl1, hl2] at q1 HTw
          have e0 := q1.cell 0
          have e1 := q1.cell 1
          have e2 := q1.cell 2
          have e3 := q1.cell 3
          simp only [List.getElem?_toArray, List.getElem?_cons_zero, List.getElem?_cons_succ] at e0 e1 e2 e3
          obtain ⟨qb, hqb⟩ : ∃ qb, w3.heap.size = qb := ⟨_, rfl⟩
          clear hs3 hz3 hb3 q1 q2 q3 q4 hbo hl0 hl1 hl2
          go_wp2_with fail
          rw [hqb] at HTw
          clear hqb e0 e1 e2 e3 HJ hend
          go_loopw [13] (fun x wr => ∃ (j : Nat) (y1 y2 : Value) (t : Sx), x = .int .i64 j ∧ j ≤ n2 ∧ j ≤ 40 ∧ Hid (P14t w sb v1 v2 pb s db y1 y2 qb t a0 p wr)) (fun x _ => n2 - (intOf x).toNat)
          case atStart => exact ⟨0, _, _, _, rfl, Nat.zero_le _, Nat.zero_le _, HTw⟩
          case round =>
            clear HTw
            obtain ⟨j, y1, y2, t, rfl, hj, hj2, HQ⟩ := hrel
            by_cases hjt : j < n2 ∧ j < 40
            · obtain ⟨hjt1, hjt2⟩ := hjt
              obtain ⟨ad, rfl, hab, hat⟩ := act_at (HA2.out.below HQ.out.a.low (Nat.le_refl _)) (show j < l2.length by rw [HN2.out]; exact hjt1)
              obtain ⟨x, hx⟩ : ∃ x, l2[j]'(by rw [HN2.out]; exact hjt1) = x := ⟨_, rfl⟩
              have HFx := Lib.hid (show Ac.Came w x from hx ▸ HF2.out _ (List.getElem_mem _))
              rw [hx] at hat
              obtain ⟨h0, h1, h2, h3, h4, h5⟩ := hat
              have HD := Lib.hid (do14_any (HQ.out.input HFx.out))
              obtain ⟨xl, hxl⟩ : ∃ y, x.l.length = y := ⟨_, rfl⟩
              rw [hxl] at h5 HD
              clear hx hab hxl
              go_wp2_with fail
              refine HD.out.mono ?_
              rintro e w6 ⟨rfl, hdo⟩
              obtain ⟨u1, u2, hj⟩ := HQ.out.next hdo
              have HQ6 := Lib.hid hj
              clear hdo hj h0 h1 h2 h3 h4 h5
              go_wp2_with fail
              go_roundw
              case rel => exact ⟨j + 1, u1, u2, _, by go_num, by omega, by omega, HQ6⟩
              case measure => simp [intOf]; omega
            · have hend2 : (decide ((j : Int) < (n2 : Int)) && decide ((j : Int) < 40)) = false := by simp; omega
              have HR1 := Lib.hid (right14_any HQ.out.a.sl HQ.out.a.ds)
              by_cases hj1 : j < n2
              · go_wp2_with fail
                refine HR1.out.mono ?_
                rintro e w6 ⟨rfl, hb6⟩
                have HQ6 := Lib.hid (HQ.out.below hb6)
                clear hb6
                go_wp2_with fail
                refine (wakes14_any _).mono ?_
                rintro e w9 ⟨rfl, hb9⟩
                go_wp2_with fail
                go_ret
                exact ⟨rfl, (HQ6.out.below hb9).a.low⟩
              · go_wp2_with fail
                refine HR1.out.mono ?_
                rintro e w6 ⟨rfl, hb6⟩
                have HQ6 := Lib.hid (HQ.out.below hb6)
                clear hb6
                go_wp2_with fail
                refine (wakes14_any _).mono ?_
                rintro e w9 ⟨rfl, hb9⟩
                go_wp2_with fail
                go_ret
                exact ⟨rfl, (HQ6.out.below hb9).a.low⟩
  · have HO := Lib.hid (fun w => slnew_out hf w)
    by_cases h1 : a0 < 1
    · have gf1 : decide (a0 < 1) = true := decide_eq_true h1
      clear hf h1
      go_enter Try.func3, Try.ntmps3
      go_wp2_with fail
      refine (HO.out _).mono ?_
      rintro e w3 ⟨rfl, rfl⟩
      go_wp2_with fail
      refine (wakes14_any _).mono ?_
      rintro e w9 ⟨rfl, hb9⟩
      go_wp2_with fail
      go_ret
      exact ⟨rfl, hb9⟩
    · have gf1 : decide (a0 < 1) = false := decide_eq_false h1
      have gf2 : decide (4 < a0) = true := decide_eq_true (by omega)
      clear hf h1
      go_enter Try.func3, Try.ntmps3
      go_wp2_with fail
      refine (HO.out _).mono ?_
      rintro e w3 ⟨rfl, rfl⟩
      go_wp2_with fail
      refine (wakes14_any _).mono ?_
      rintro e w9 ⟨rfl, hb9⟩
      go_wp2_with fail
      go_ret
      exact ⟨rfl, hb9⟩
end Go.Proofs.Ytcebnmhkbhhfiaa
namespace Go.Proofs.Ytcebnmhkbhhfiaa.slotPlays
open Go.ChangeShapes Go.WideShapes Go.ChangeAt Go.RowKit
set_option linter.unusedVariables false
theorem own : ownKnob Try.prog.godebug = none := by kernel_rfl
theorem laidOut : laidOutB Try.prog = true := by kernel_rfl
set_option maxRecDepth 100000 in
theorem lifted (os : Os) (started : os.Started) (H : Type) (enc : TypeId × Value → H) :
    ReturnsInHanded {} Try.checked os 3 .any (Rows.slotPlaysSpec.pre6 enc Try.prog Try.f3 Rows.slotPlaysRow.domain false) (Rows.slotPlaysSpec.post enc Try.prog Try.f3 false true false false) := by
  refine returnsInHanded_of_change (C := Try.checked) own started (by kernel_rfl) Try.func3
    (ChangeSpec.witness6 (enc := enc) (C := Try.checked) false ⟨#[], #[.int .i64 0, .slice none 0 0, .slice none 0 0], []⟩ 8 (by kernel_rfl) (by kernel_rfl) (by kernel_rfl) (by kernel_rfl)) ?_
  intro W base args ds gs before hval0 hW hcnd _
  have hval : ∀ (j : Nat) t v, Try.f3.params[j]? = some t → args[j]? = some v → Value.okWide Try.prog W .any base t v := hval0
  have hW' := hW
  obtain ⟨p, q, hA0, hV, rfl, hfz, hnd⟩ := hW
  have hA : DataW.TrodAll enc Try.prog W 0 (fun _ => true) true Try.f3.params.toList args.toList ds p := hA0
  rw [Try.params3] at hA hval
  obtain ⟨v0, vs0, d0, ds0, p0, q0, hargs, rfl, rfl, h0, r0⟩ := trodAll_cons hA
  obtain ⟨v1, vs1, d1, ds1, p1, q1, rfl, rfl, rfl, h1, r1⟩ := trodAll_cons r0
  obtain ⟨v2, vs2, d2, ds2, p2, q2, rfl, rfl, rfl, h2, r2⟩ := trodAll_cons r1
  obtain ⟨rfl, rfl, rfl⟩ := trodAll_nil r2
  obtain rfl : args = #[v0, v1, v2] := by cases args; simp_all
  obtain ⟨rfl, rfl⟩ := trodVars_none hV
  obtain ⟨a0, rfl, rfl, rfl, w0⟩ := open_int Try.underlying3 (hval 0 3 v0 rfl rfl) h0
  obtain ⟨a1, len1, c1, rfl⟩ := okWide_slice Try.underlying22 (hval 1 22 v1 rfl rfl)
  have k1 := h1
  have lt1 : ∀ x ∈ p1, x.block < W.heap.size := by obtain ⟨m, hm⟩ := k1; exact DataW.trod_lt m _ _ _ hm
  obtain ⟨z1, hl1, w1⟩ : ∃ zs : List Ac, zs.length = len1 ∧ IsActs W a1 zs c1 := by
    obtain ⟨fuel, hf⟩ := h1
    exact open_acts hf
  subst hl1
  obtain ⟨a2, len2, c2, rfl⟩ := okWide_slice Try.underlying22 (hval 2 22 v2 rfl rfl)
  have k2 := h2
  have lt2 : ∀ x ∈ p2, x.block < W.heap.size := by obtain ⟨m, hm⟩ := k2; exact DataW.trod_lt m _ _ _ hm
  obtain ⟨z2, hl2, w2⟩ : ∃ zs : List Ac, zs.length = len2 ∧ IsActs W a2 zs c2 := by
    obtain ⟨fuel, hf⟩ := h2
    exact open_acts hf
  subst hl2
  clear hA0 hval0
  refine (slotPlays_walk a0 a1 c1 z1 a2 c2 z2 W w0 w1 w2).mono fun e W' ⟨he, bel⟩ => ?_
  subst he
  exact ⟨_, rfl, _, _, _, [], _, [], hW', trodAll_mk1 (shut_bool Try.underlying4 _), (trodAll_cons_mk (shut_int Try.underlying3 w0) (trodAll_cons_mk (Below.trod laidOut (by kernel_rfl) (of_decide_eq_true (by kernel_rfl)) k1 bel lt1) (trodAll_cons_mk (Below.trod laidOut (by kernel_rfl) (of_decide_eq_true (by kernel_rfl)) k2 bel lt2) trodAll_mk0))), rfl, bel.frame _, fun h => by cases h⟩
/-- The given statement. -/
theorem proved : Rows.SlotPlaysSaid :=
  OpenClaim.holds_of_wide 3 Try.f3 rfl rfl rfl rfl rfl rfl rfl ⟨rfl, rfl, rfl, rfl, rfl⟩ rfl rfl rfl rfl rfl (by kernel_rfl) Try.func3 (by kernel_rfl)
    (of_decide_eq_true (by kernel_rfl)) (by unfold Func.isWrapper; rw [if_neg (by decide +kernel)]; exact ⟨rfl, rfl⟩)
    (fun os started H enc _ => lifted os started H enc)
end Go.Proofs.Ytcebnmhkbhhfiaa.slotPlays
