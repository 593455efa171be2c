/- Package store: Apply. -/
import Derived.Test.YtpjcedilkahpiaaStoreSum
namespace Go.Proofs.Ytpjcedilkahpiaa
open Go.RowKit Go.Maps

set_option maxHeartbeats 2000000 in
theorem sapply_bad {w : World} {sb bm N : Nat} {V : Kv} (h : St w sb bm N V) {kd : Int} {p v : Int} (hm : mayOp p v = false) :
    Calls Try.prog 32 #[.pointer (some ⟨sb, 0, none⟩), .agg #[.int .i64 kd, .int .i64 p, .int .i64 v]] w fun e w' => e = .returned (.int .i64 0) ∧ St w' sb bm N V ∧ Turn (fun k => k = bm) w w' := by
  have hbad : ¬ (0 ≤ p ∧ p < 64) ∨ ((0 ≤ p ∧ p < 64) ∧ ¬ (-2147483648 < v ∧ v < 2147483648)) := by
    have := of_decide_eq_false hm
    omega
  have hb1 : Below w.heap.size w (w.alloc (.cells #[.int .i64 kd, .int .i64 p, .int .i64 v] 32)) := (Below.refl _ _).alloc (Nat.le_refl _) _
  have hS1 := h.below hb1
  have hk1 := Blk.new w 32 #[.int .i64 kd, .int .i64 p, .int .i64 v]
  obtain ⟨H, hH⟩ : ∃ H, w.heap.size = H := ⟨_, rfl⟩
  obtain ⟨w1, hw1⟩ : ∃ w1, w.alloc (.cells #[.int .i64 kd, .int .i64 p, .int .i64 v] 32) = w1 := ⟨_, rfl⟩
  have HT := Lib.hid (show Turn (fun k => k = bm) w w1 from hw1 ▸ Turn.of_below hb1)
  rw [hw1] at hS1 hk1
  rw [hH] at hk1
  have HX := Lib.hid hS1
  have HY := Lib.hid hk1
  have ha0 := hk1.cell 0
  have ha1 := hk1.cell 1
  have ha2 := hk1.cell 2
  simp only [List.getElem?_toArray, List.getElem?_cons_zero, List.getElem?_cons_succ] at ha0 ha1 ha2
  have HW := Lib.hid hw1
  have HHh := Lib.hid hH
  have KK := Lib.hid (fun w => ikeys_any w p)
  have KV := Lib.hid (fun w => ivals_any w v)
  clear h hm hb1 hS1 hk1 hw1 hH
  rcases hbad with hp | ⟨hp, hv⟩
  · have G1 := Lib.hid (decide_eq_false hp)
    clear hp
    go_enter Try.func32, Try.ntmps32
    go_wp2_with fail
    rw [HW.out, HHh.out]
    go_wp2_with fail
    refine (KK.out _).mono ?_
    rintro e w' ⟨rfl, rfl⟩
    rw [G1.out]
    go_wp2_with fail
    go_ret
    exact ⟨rfl, HX.out, HT.out⟩
  · have G1 := Lib.hid (decide_eq_true hp)
    have G2 := Lib.hid (decide_eq_false hv)
    clear hp hv
    go_enter Try.func32, Try.ntmps32
    go_wp2_with fail
    rw [HW.out, HHh.out]
    go_wp2_with fail
    refine (KK.out _).mono ?_
    rintro e w' ⟨rfl, rfl⟩
    rw [G1.out]
    go_wp2_with fail
    refine (KV.out _).mono ?_
    rintro e w' ⟨rfl, rfl⟩
    rw [G2.out]
    go_wp2_with fail
    go_ret
    exact ⟨rfl, HX.out, HT.out⟩

set_option maxHeartbeats 2000000 in
theorem sapply_get {w : World} {sb bm N : Nat} {V : Kv} (h : St w sb bm N V) {p v : Int} (hp : 0 ≤ p ∧ p < 64) (hv : -2147483648 < v ∧ v < 2147483648) :
    Calls Try.prog 32 #[.pointer (some ⟨sb, 0, none⟩), .agg #[.int .i64 2, .int .i64 p, .int .i64 v]] w fun e w' => e = .returned (.int .i64 (V.val p)) ∧ St w' sb bm N V ∧ Turn (fun k => k = bm) w w' := by
  have hb1 : Below w.heap.size w (w.alloc (.cells #[.int .i64 2, .int .i64 p, .int .i64 v] 32)) := (Below.refl _ _).alloc (Nat.le_refl _) _
  have hS1 := h.below hb1
  have hk1 := Blk.new w 32 #[.int .i64 2, .int .i64 p, .int .i64 v]
  obtain ⟨H, hH⟩ : ∃ H, w.heap.size = H := ⟨_, rfl⟩
  obtain ⟨w1, hw1⟩ : ∃ w1, w.alloc (.cells #[.int .i64 2, .int .i64 p, .int .i64 v] 32) = w1 := ⟨_, rfl⟩
  have HT := Lib.hid (show Turn (fun k => k = bm) w w1 from hw1 ▸ Turn.of_below hb1)
  rw [hw1] at hS1 hk1
  rw [hH] at hk1
  have HX := Lib.hid hS1
  have HY := Lib.hid hk1
  have ha0 := hk1.cell 0
  have ha1 := hk1.cell 1
  have ha2 := hk1.cell 2
  simp only [List.getElem?_toArray, List.getElem?_cons_zero, List.getElem?_cons_succ] at ha0 ha1 ha2
  have HW := Lib.hid hw1
  have HHh := Lib.hid hH
  have KK := Lib.hid (fun w => ikeys_any w p)
  have KV := Lib.hid (fun w => ivals_any w v)
  have G1 := Lib.hid (decide_eq_true hp)
  have G2 := Lib.hid (decide_eq_true hv)
  have HF := Lib.hid (kfit hp)
  clear h hp hv hb1 hS1 hk1 hw1 hH
  go_enter Try.func32, Try.ntmps32
  go_wp2_with fail
  rw [HW.out, HHh.out]
  go_wp2_with fail
  refine (KK.out _).mono ?_
  rintro e w' ⟨rfl, rfl⟩
  rw [G1.out]
  go_wp2_with fail
  refine (KV.out _).mono ?_
  rintro e w' ⟨rfl, rfl⟩
  rw [G2.out]
  have hc0 := HX.out.blk.cell 0
  have hd0 := (HX.out.drewN 1).blk.cell 0
  have hl := HX.out.peep HF.out
  have hld := (HX.out.drewN 1).peep HF.out
  have hb1 := (HY.out.drewN 1).cell 1
  simp only [List.getElem?_toArray, List.getElem?_cons_zero, List.getElem?_cons_succ] at hc0 hd0 hb1
  have hd0 : w1.drew.cell? ⟨sb, 0, none⟩ = some (.map (some bm)) := hd0
  have hb1 : w1.drew.cell? ⟨H, 1, none⟩ = some (.int .i64 p) := hb1
  have hld : (Instr.lookup 78 (.map (some bm)) (.int .i64 p) false).run Try.prog w1.drew = .ok (.int .i64 (V.val p)) w1.drew := hld
  go_wp2_with fail
  go_region
  obtain ⟨w2, hw2⟩ : ∃ w2, w1.drew = w2 := ⟨_, rfl⟩
  have HX2 := Lib.hid (show St w2 sb bm N V from hw2 ▸ HX.out.drewN 1)
  have HY2 := Lib.hid (show Blk w2 H 32 #[.int .i64 2, .int .i64 p, .int .i64 v] from hw2 ▸ HY.out.drewN 1)
  have HT2 := Lib.hid (show Turn (fun k => k = bm) w w2 from hw2 ▸ HT.out.drewN 1)
  rw [hw2]
  have b0 := HY2.out.cell 0
  have b1 := HY2.out.cell 1
  have b2 := HY2.out.cell 2
  have b3 := HX2.out.blk.cell 0
  simp only [List.getElem?_toArray, List.getElem?_cons_zero, List.getElem?_cons_succ] at b0 b1 b2 b3
  clear ha0 ha1 ha2 hc0 hd0 hl hld hb1 hw2
  go_wp2_with fail
  go_ret
  exact ⟨rfl, HX2.out, HT2.out⟩

set_option maxRecDepth 100000 in
set_option maxHeartbeats 2000000 in
theorem sapply_none {w : World} {sb bm N : Nat} {V : Kv} (h : St w sb bm N V) {p v : Int} (hp : 0 ≤ p ∧ p < 64) (hv : -2147483648 < v ∧ v < 2147483648) {kd : Int} (k1 : kd ≠ 1) (k2 : kd ≠ 2) (k3 : kd ≠ 3) (k4 : kd ≠ 4) (k5 : kd ≠ 5) :
    Calls Try.prog 32 #[.pointer (some ⟨sb, 0, none⟩), .agg #[.int .i64 kd, .int .i64 p, .int .i64 v]] w fun e w' => e = .returned (.int .i64 0) ∧ St w' sb bm N V ∧ Turn (fun k => k = bm) w w' := by
  have hb1 : Below w.heap.size w (w.alloc (.cells #[.int .i64 kd, .int .i64 p, .int .i64 v] 32)) := (Below.refl _ _).alloc (Nat.le_refl _) _
  have hS1 := h.below hb1
  have hk1 := Blk.new w 32 #[.int .i64 kd, .int .i64 p, .int .i64 v]
  obtain ⟨H, hH⟩ : ∃ H, w.heap.size = H := ⟨_, rfl⟩
  obtain ⟨w1, hw1⟩ : ∃ w1, w.alloc (.cells #[.int .i64 kd, .int .i64 p, .int .i64 v] 32) = w1 := ⟨_, rfl⟩
  have HT := Lib.hid (show Turn (fun k => k = bm) w w1 from hw1 ▸ Turn.of_below hb1)
  rw [hw1] at hS1 hk1
  rw [hH] at hk1
  have HX := Lib.hid hS1
  have HY := Lib.hid hk1
  have ha0 := hk1.cell 0
  have ha1 := hk1.cell 1
  have ha2 := hk1.cell 2
  simp only [List.getElem?_toArray, List.getElem?_cons_zero, List.getElem?_cons_succ] at ha0 ha1 ha2
  have HW := Lib.hid hw1
  have HHh := Lib.hid hH
  have KK := Lib.hid (fun w => ikeys_any w p)
  have KV := Lib.hid (fun w => ivals_any w v)
  have G1 := Lib.hid (decide_eq_true hp)
  have G2 := Lib.hid (decide_eq_true hv)
  have HF := Lib.hid (kfit hp)
  clear h hp hv hb1 hS1 hk1 hw1 hH
  go_enter Try.func32, Try.ntmps32
  go_wp2_with fail
  rw [HW.out, HHh.out]
  go_wp2_with fail
  refine (KK.out _).mono ?_
  rintro e w' ⟨rfl, rfl⟩
  rw [G1.out]
  go_wp2_with fail
  refine (KV.out _).mono ?_
  rintro e w' ⟨rfl, rfl⟩
  rw [G2.out]
  have hc0 := HX.out.blk.cell 0
  have hd0 := (HX.out.drewN 1).blk.cell 0
  have hl := HX.out.peep HF.out
  have hld := (HX.out.drewN 1).peep HF.out
  have hb1 := (HY.out.drewN 1).cell 1
  simp only [List.getElem?_toArray, List.getElem?_cons_zero, List.getElem?_cons_succ] at hc0 hd0 hb1
  have hd0 : w1.drew.cell? ⟨sb, 0, none⟩ = some (.map (some bm)) := hd0
  have hb1 : w1.drew.cell? ⟨H, 1, none⟩ = some (.int .i64 p) := hb1
  have hld : (Instr.lookup 78 (.map (some bm)) (.int .i64 p) false).run Try.prog w1.drew = .ok (.int .i64 (V.val p)) w1.drew := hld
  go_wp2_with fail
  go_region
  obtain ⟨w2, hw2⟩ : ∃ w2, w1.drew = w2 := ⟨_, rfl⟩
  have HX2 := Lib.hid (show St w2 sb bm N V from hw2 ▸ HX.out.drewN 1)
  have HY2 := Lib.hid (show Blk w2 H 32 #[.int .i64 kd, .int .i64 p, .int .i64 v] from hw2 ▸ HY.out.drewN 1)
  have HT2 := Lib.hid (show Turn (fun k => k = bm) w w2 from hw2 ▸ HT.out.drewN 1)
  rw [hw2]
  have b0 := HY2.out.cell 0
  have b1 := HY2.out.cell 1
  have b2 := HY2.out.cell 2
  have b3 := HX2.out.blk.cell 0
  simp only [List.getElem?_toArray, List.getElem?_cons_zero, List.getElem?_cons_succ] at b0 b1 b2 b3
  clear ha0 ha1 ha2 hc0 hd0 hl hld hb1 hw2
  go_wp2_with fail
  go_ret
  exact ⟨rfl, HX2.out, HT2.out⟩

set_option maxHeartbeats 2000000 in
theorem sapply_sum {w : World} {sb bm N : Nat} {V : Kv} (h : St w sb bm N V) {p v : Int} (hp : 0 ≤ p ∧ p < 64) (hv : -2147483648 < v ∧ v < 2147483648) :
    Calls Try.prog 32 #[.pointer (some ⟨sb, 0, none⟩), .agg #[.int .i64 5, .int .i64 p, .int .i64 v]] w fun e w' => e = .returned (.int .i64 V.sum) ∧ St w' sb bm N V ∧ Turn (fun k => k = bm) w w' := by
  have hb1 : Below w.heap.size w (w.alloc (.cells #[.int .i64 5, .int .i64 p, .int .i64 v] 32)) := (Below.refl _ _).alloc (Nat.le_refl _) _
  have hS1 := h.below hb1
  have hk1 := Blk.new w 32 #[.int .i64 5, .int .i64 p, .int .i64 v]
  obtain ⟨H, hH⟩ : ∃ H, w.heap.size = H := ⟨_, rfl⟩
  obtain ⟨w1, hw1⟩ : ∃ w1, w.alloc (.cells #[.int .i64 5, .int .i64 p, .int .i64 v] 32) = w1 := ⟨_, rfl⟩
  have HT := Lib.hid (show Turn (fun k => k = bm) w w1 from hw1 ▸ Turn.of_below hb1)
  rw [hw1] at hS1 hk1
  rw [hH] at hk1
  have HX := Lib.hid hS1
  have HY := Lib.hid hk1
  have ha0 := hk1.cell 0
  have ha1 := hk1.cell 1
  have ha2 := hk1.cell 2
  simp only [List.getElem?_toArray, List.getElem?_cons_zero, List.getElem?_cons_succ] at ha0 ha1 ha2
  have HW := Lib.hid hw1
  have HHh := Lib.hid hH
  have KK := Lib.hid (fun w => ikeys_any w p)
  have KV := Lib.hid (fun w => ivals_any w v)
  have G1 := Lib.hid (decide_eq_true hp)
  have G2 := Lib.hid (decide_eq_true hv)
  have HF := Lib.hid (kfit hp)
  clear h hp hv hb1 hS1 hk1 hw1 hH
  go_enter Try.func32, Try.ntmps32
  go_wp2_with fail
  rw [HW.out, HHh.out]
  go_wp2_with fail
  refine (KK.out _).mono ?_
  rintro e w' ⟨rfl, rfl⟩
  rw [G1.out]
  go_wp2_with fail
  refine (KV.out _).mono ?_
  rintro e w' ⟨rfl, rfl⟩
  rw [G2.out]
  have hc0 := HX.out.blk.cell 0
  have hd0 := (HX.out.drewN 1).blk.cell 0
  have hl := HX.out.peep HF.out
  have hld := (HX.out.drewN 1).peep HF.out
  have hb1 := (HY.out.drewN 1).cell 1
  simp only [List.getElem?_toArray, List.getElem?_cons_zero, List.getElem?_cons_succ] at hc0 hd0 hb1
  have hd0 : w1.drew.cell? ⟨sb, 0, none⟩ = some (.map (some bm)) := hd0
  have hb1 : w1.drew.cell? ⟨H, 1, none⟩ = some (.int .i64 p) := hb1
  have hld : (Instr.lookup 78 (.map (some bm)) (.int .i64 p) false).run Try.prog w1.drew = .ok (.int .i64 (V.val p)) w1.drew := hld
  go_wp2_with fail
  go_region
  obtain ⟨w2, hw2⟩ : ∃ w2, w1.drew = w2 := ⟨_, rfl⟩
  have HX2 := Lib.hid (show St w2 sb bm N V from hw2 ▸ HX.out.drewN 1)
  have HY2 := Lib.hid (show Blk w2 H 32 #[.int .i64 5, .int .i64 p, .int .i64 v] from hw2 ▸ HY.out.drewN 1)
  have HT2 := Lib.hid (show Turn (fun k => k = bm) w w2 from hw2 ▸ HT.out.drewN 1)
  rw [hw2]
  have b0 := HY2.out.cell 0
  have b1 := HY2.out.cell 1
  have b2 := HY2.out.cell 2
  have b3 := HX2.out.blk.cell 0
  simp only [List.getElem?_toArray, List.getElem?_cons_zero, List.getElem?_cons_succ] at b0 b1 b2 b3
  clear ha0 ha1 ha2 hc0 hd0 hl hld hb1 hw2
  go_wp2_with fail
  refine (ssum_any HX2.out).mono ?_
  rintro e w3 ⟨rfl, hB3⟩
  have HX3 := Lib.hid (HX2.out.below hB3)
  have HT3 := Lib.hid (HT2.out.trans (Turn.of_below hB3))
  clear hB3
  go_wp2_with fail
  go_ret
  exact ⟨rfl, HX3.out, HT3.out⟩

set_option maxHeartbeats 2000000 in
theorem sapply_add_out {w : World} {sb bm N : Nat} {V : Kv} (h : St w sb bm N V) {p v : Int} (hp : 0 ≤ p ∧ p < 64) (hv : -2147483648 < v ∧ v < 2147483648) (hr : ¬ (-2147483648 < V.val p + v ∧ V.val p + v < 2147483648)) :
    Calls Try.prog 32 #[.pointer (some ⟨sb, 0, none⟩), .agg #[.int .i64 3, .int .i64 p, .int .i64 v]] w fun e w' => e = .returned (.int .i64 (V.val p)) ∧ St w' sb bm N V ∧ Turn (fun k => k = bm) w w' := by
  have hb1 : Below w.heap.size w (w.alloc (.cells #[.int .i64 3, .int .i64 p, .int .i64 v] 32)) := (Below.refl _ _).alloc (Nat.le_refl _) _
  have hS1 := h.below hb1
  have hk1 := Blk.new w 32 #[.int .i64 3, .int .i64 p, .int .i64 v]
  obtain ⟨H, hH⟩ : ∃ H, w.heap.size = H := ⟨_, rfl⟩
  obtain ⟨w1, hw1⟩ : ∃ w1, w.alloc (.cells #[.int .i64 3, .int .i64 p, .int .i64 v] 32) = w1 := ⟨_, rfl⟩
  have HT := Lib.hid (show Turn (fun k => k = bm) w w1 from hw1 ▸ Turn.of_below hb1)
  rw [hw1] at hS1 hk1
  rw [hH] at hk1
  have HX := Lib.hid hS1
  have HY := Lib.hid hk1
  have ha0 := hk1.cell 0
  have ha1 := hk1.cell 1
  have ha2 := hk1.cell 2
  simp only [List.getElem?_toArray, List.getElem?_cons_zero, List.getElem?_cons_succ] at ha0 ha1 ha2
  have HW := Lib.hid hw1
  have HHh := Lib.hid hH
  have KK := Lib.hid (fun w => ikeys_any w p)
  have KV := Lib.hid (fun w => ivals_any w v)
  have G1 := Lib.hid (decide_eq_true hp)
  have G2 := Lib.hid (decide_eq_true hv)
  have HF := Lib.hid (kfit hp)
  have HV := Lib.hid hv
  have HR := Lib.hid hr
  clear h hp hv hb1 hS1 hk1 hw1 hH hr
  go_enter Try.func32, Try.ntmps32
  go_wp2_with fail
  rw [HW.out, HHh.out]
  go_wp2_with fail
  refine (KK.out _).mono ?_
  rintro e w' ⟨rfl, rfl⟩
  rw [G1.out]
  go_wp2_with fail
  refine (KV.out _).mono ?_
  rintro e w' ⟨rfl, rfl⟩
  rw [G2.out]
  have hc0 := HX.out.blk.cell 0
  have hd0 := (HX.out.drewN 1).blk.cell 0
  have hl := HX.out.peep HF.out
  have hld := (HX.out.drewN 1).peep HF.out
  have hb1 := (HY.out.drewN 1).cell 1
  simp only [List.getElem?_toArray, List.getElem?_cons_zero, List.getElem?_cons_succ] at hc0 hd0 hb1
  have hd0 : w1.drew.cell? ⟨sb, 0, none⟩ = some (.map (some bm)) := hd0
  have hb1 : w1.drew.cell? ⟨H, 1, none⟩ = some (.int .i64 p) := hb1
  have hld : (Instr.lookup 78 (.map (some bm)) (.int .i64 p) false).run Try.prog w1.drew = .ok (.int .i64 (V.val p)) w1.drew := hld
  go_wp2_with fail
  go_region
  obtain ⟨w2, hw2⟩ : ∃ w2, w1.drew = w2 := ⟨_, rfl⟩
  have HX2 := Lib.hid (show St w2 sb bm N V from hw2 ▸ HX.out.drewN 1)
  have HY2 := Lib.hid (show Blk w2 H 32 #[.int .i64 3, .int .i64 p, .int .i64 v] from hw2 ▸ HY.out.drewN 1)
  have HT2 := Lib.hid (show Turn (fun k => k = bm) w w2 from hw2 ▸ HT.out.drewN 1)
  rw [hw2]
  have b0 := HY2.out.cell 0
  have b1 := HY2.out.cell 1
  have b2 := HY2.out.cell 2
  have b3 := HX2.out.blk.cell 0
  simp only [List.getElem?_toArray, List.getElem?_cons_zero, List.getElem?_cons_succ] at b0 b1 b2 b3
  clear ha0 ha1 ha2 hc0 hd0 hl hld hb1 hw2
  go_wp2_with fail
  refine (sadd_out HX2.out HF.out HV.out HR.out).mono ?_
  rintro e w3 ⟨rfl, rfl⟩
  go_wp2_with fail
  go_ret
  exact ⟨rfl, HX2.out, HT2.out⟩

set_option maxHeartbeats 2000000 in
theorem sapply_add_in {w : World} {sb bm N : Nat} {V : Kv} (h : St w sb bm N V) (hN : N < maxLen) {p v : Int} (hp : 0 ≤ p ∧ p < 64) (hv : -2147483648 < v ∧ v < 2147483648) (hr : -2147483648 < V.val p + v ∧ V.val p + v < 2147483648) :
    Calls Try.prog 32 #[.pointer (some ⟨sb, 0, none⟩), .agg #[.int .i64 3, .int .i64 p, .int .i64 v]] w fun e w' => e = .returned (.int .i64 (V.val p + v)) ∧ St w' sb bm (N + 1) (V.put p (V.val p + v)) ∧ Turn (fun k => k = bm) w w' := by
  have hb1 : Below w.heap.size w (w.alloc (.cells #[.int .i64 3, .int .i64 p, .int .i64 v] 32)) := (Below.refl _ _).alloc (Nat.le_refl _) _
  have hS1 := h.below hb1
  have hk1 := Blk.new w 32 #[.int .i64 3, .int .i64 p, .int .i64 v]
  obtain ⟨H, hH⟩ : ∃ H, w.heap.size = H := ⟨_, rfl⟩
  obtain ⟨w1, hw1⟩ : ∃ w1, w.alloc (.cells #[.int .i64 3, .int .i64 p, .int .i64 v] 32) = w1 := ⟨_, rfl⟩
  have HT := Lib.hid (show Turn (fun k => k = bm) w w1 from hw1 ▸ Turn.of_below hb1)
  rw [hw1] at hS1 hk1
  rw [hH] at hk1
  have HX := Lib.hid hS1
  have HY := Lib.hid hk1
  have ha0 := hk1.cell 0
  have ha1 := hk1.cell 1
  have ha2 := hk1.cell 2
  simp only [List.getElem?_toArray, List.getElem?_cons_zero, List.getElem?_cons_succ] at ha0 ha1 ha2
  have HW := Lib.hid hw1
  have HHh := Lib.hid hH
  have KK := Lib.hid (fun w => ikeys_any w p)
  have KV := Lib.hid (fun w => ivals_any w v)
  have G1 := Lib.hid (decide_eq_true hp)
  have G2 := Lib.hid (decide_eq_true hv)
  have HF := Lib.hid (kfit hp)
  have HP := Lib.hid hp
  have HR := Lib.hid hr
  have HN := Lib.hid hN
  clear h hp hv hb1 hS1 hk1 hw1 hH hr hN
  go_enter Try.func32, Try.ntmps32
  go_wp2_with fail
  rw [HW.out, HHh.out]
  go_wp2_with fail
  refine (KK.out _).mono ?_
  rintro e w' ⟨rfl, rfl⟩
  rw [G1.out]
  go_wp2_with fail
  refine (KV.out _).mono ?_
  rintro e w' ⟨rfl, rfl⟩
  rw [G2.out]
  have hc0 := HX.out.blk.cell 0
  have hd0 := (HX.out.drewN 1).blk.cell 0
  have hl := HX.out.peep HF.out
  have hld := (HX.out.drewN 1).peep HF.out
  have hb1 := (HY.out.drewN 1).cell 1
  simp only [List.getElem?_toArray, List.getElem?_cons_zero, List.getElem?_cons_succ] at hc0 hd0 hb1
  have hd0 : w1.drew.cell? ⟨sb, 0, none⟩ = some (.map (some bm)) := hd0
  have hb1 : w1.drew.cell? ⟨H, 1, none⟩ = some (.int .i64 p) := hb1
  have hld : (Instr.lookup 78 (.map (some bm)) (.int .i64 p) false).run Try.prog w1.drew = .ok (.int .i64 (V.val p)) w1.drew := hld
  go_wp2_with fail
  go_region
  obtain ⟨w2, hw2⟩ : ∃ w2, w1.drew = w2 := ⟨_, rfl⟩
  have HX2 := Lib.hid (show St w2 sb bm N V from hw2 ▸ HX.out.drewN 1)
  have HY2 := Lib.hid (show Blk w2 H 32 #[.int .i64 3, .int .i64 p, .int .i64 v] from hw2 ▸ HY.out.drewN 1)
  have HT2 := Lib.hid (show Turn (fun k => k = bm) w w2 from hw2 ▸ HT.out.drewN 1)
  rw [hw2]
  have b0 := HY2.out.cell 0
  have b1 := HY2.out.cell 1
  have b2 := HY2.out.cell 2
  have b3 := HX2.out.blk.cell 0
  simp only [List.getElem?_toArray, List.getElem?_cons_zero, List.getElem?_cons_succ] at b0 b1 b2 b3
  clear ha0 ha1 ha2 hc0 hd0 hl hld hb1 hw2
  go_wp2_with fail
  refine (sadd_in HX2.out HN.out HP.out HR.out).mono ?_
  rintro e w3 ⟨rfl, hs3, ht3⟩
  have HX3 := Lib.hid hs3
  have HT3 := Lib.hid (HT2.out.trans (ht3.mono (fun k _ hk => hk)))
  clear hs3 ht3
  go_wp2_with fail
  go_ret
  exact ⟨rfl, HX3.out, HT3.out⟩

set_option maxHeartbeats 2000000 in
theorem sapply_put {w : World} {sb bm N : Nat} {V : Kv} (h : St w sb bm N V) (hN : N < maxLen) {p v : Int} (hp : 0 ≤ p ∧ p < 64) (hv : -2147483648 < v ∧ v < 2147483648) :
    Calls Try.prog 32 #[.pointer (some ⟨sb, 0, none⟩), .agg #[.int .i64 1, .int .i64 p, .int .i64 v]] w fun e w' => e = .returned (.int .i64 (V.val p)) ∧ St w' sb bm (N + 1) (V.put p v) ∧ Turn (fun k => k = bm) w w' := by
  have hb1 : Below w.heap.size w (w.alloc (.cells #[.int .i64 1, .int .i64 p, .int .i64 v] 32)) := (Below.refl _ _).alloc (Nat.le_refl _) _
  have hS1 := h.below hb1
  have hk1 := Blk.new w 32 #[.int .i64 1, .int .i64 p, .int .i64 v]
  obtain ⟨H, hH⟩ : ∃ H, w.heap.size = H := ⟨_, rfl⟩
  obtain ⟨w1, hw1⟩ : ∃ w1, w.alloc (.cells #[.int .i64 1, .int .i64 p, .int .i64 v] 32) = w1 := ⟨_, rfl⟩
  have HT := Lib.hid (show Turn (fun k => k = bm) w w1 from hw1 ▸ Turn.of_below hb1)
  rw [hw1] at hS1 hk1
  rw [hH] at hk1
  have HX := Lib.hid hS1
  have HY := Lib.hid hk1
  have ha0 := hk1.cell 0
  have ha1 := hk1.cell 1
  have ha2 := hk1.cell 2
  simp only [List.getElem?_toArray, List.getElem?_cons_zero, List.getElem?_cons_succ] at ha0 ha1 ha2
  have HW := Lib.hid hw1
  have HHh := Lib.hid hH
  have KK := Lib.hid (fun w => ikeys_any w p)
  have KV := Lib.hid (fun w => ivals_any w v)
  have G1 := Lib.hid (decide_eq_true hp)
  have G2 := Lib.hid (decide_eq_true hv)
  have HF := Lib.hid (kfit hp)
  have HP := Lib.hid hp
  have HV := Lib.hid hv
  have HN := Lib.hid hN
  clear h hp hv hb1 hS1 hk1 hw1 hH hN
  go_enter Try.func32, Try.ntmps32
  go_wp2_with fail
  rw [HW.out, HHh.out]
  go_wp2_with fail
  refine (KK.out _).mono ?_
  rintro e w' ⟨rfl, rfl⟩
  rw [G1.out]
  go_wp2_with fail
  refine (KV.out _).mono ?_
  rintro e w' ⟨rfl, rfl⟩
  rw [G2.out]
  have hc0 := HX.out.blk.cell 0
  have hd0 := (HX.out.drewN 1).blk.cell 0
  have hl := HX.out.peep HF.out
  have hld := (HX.out.drewN 1).peep HF.out
  have hb1 := (HY.out.drewN 1).cell 1
  simp only [List.getElem?_toArray, List.getElem?_cons_zero, List.getElem?_cons_succ] at hc0 hd0 hb1
  have hd0 : w1.drew.cell? ⟨sb, 0, none⟩ = some (.map (some bm)) := hd0
  have hb1 : w1.drew.cell? ⟨H, 1, none⟩ = some (.int .i64 p) := hb1
  have hld : (Instr.lookup 78 (.map (some bm)) (.int .i64 p) false).run Try.prog w1.drew = .ok (.int .i64 (V.val p)) w1.drew := hld
  go_wp2_with fail
  go_region
  obtain ⟨w2, hw2⟩ : ∃ w2, w1.drew = w2 := ⟨_, rfl⟩
  have HX2 := Lib.hid (show St w2 sb bm N V from hw2 ▸ HX.out.drewN 1)
  have HY2 := Lib.hid (show Blk w2 H 32 #[.int .i64 1, .int .i64 p, .int .i64 v] from hw2 ▸ HY.out.drewN 1)
  have HT2 := Lib.hid (show Turn (fun k => k = bm) w w2 from hw2 ▸ HT.out.drewN 1)
  rw [hw2]
  have b0 := HY2.out.cell 0
  have b1 := HY2.out.cell 1
  have b2 := HY2.out.cell 2
  have b3 := HX2.out.blk.cell 0
  simp only [List.getElem?_toArray, List.getElem?_cons_zero, List.getElem?_cons_succ] at b0 b1 b2 b3
  clear ha0 ha1 ha2 hc0 hd0 hl hld hb1 hw2
  obtain ⟨w3, hrun, hc3, ht3⟩ := (show St w2.drew sb bm N V from HX2.out.drewN 1).store HN.out HP.out HV.out
  have HX3 := Lib.hid hc3
  have HT3 := Lib.hid ((HT2.out.drewN 1).trans ht3)
  have e0 := (HX2.out.drewN 1).blk.cell 0
  have e1 := (HY2.out.drewN 1).cell 1
  have e2 := (HY2.out.drewN 1).cell 2
  simp only [List.getElem?_toArray, List.getElem?_cons_zero, List.getElem?_cons_succ] at e0 e1 e2
  have e0 : w2.drew.cell? ⟨sb, 0, none⟩ = some (.map (some bm)) := e0
  have e1 : w2.drew.cell? ⟨H, 1, none⟩ = some (.int .i64 p) := e1
  have e2 : w2.drew.cell? ⟨H, 2, none⟩ = some (.int .i64 v) := e2
  clear hc3 ht3
  go_wp2_with fail
  go_region
  go_wp2_with fail
  go_ret
  exact ⟨rfl, HX3.out, HT3.out⟩

set_option maxHeartbeats 2000000 in
theorem sapply_del {w : World} {sb bm N : Nat} {V : Kv} (h : St w sb bm N V) {p v : Int} (hp : 0 ≤ p ∧ p < 64) (hv : -2147483648 < v ∧ v < 2147483648) :
    Calls Try.prog 32 #[.pointer (some ⟨sb, 0, none⟩), .agg #[.int .i64 4, .int .i64 p, .int .i64 v]] w fun e w' => e = .returned (.int .i64 (V.val p)) ∧ St w' sb bm N (V.del p) ∧ Turn (fun k => k = bm) w w' := by
  have hb1 : Below w.heap.size w (w.alloc (.cells #[.int .i64 4, .int .i64 p, .int .i64 v] 32)) := (Below.refl _ _).alloc (Nat.le_refl _) _
  have hS1 := h.below hb1
  have hk1 := Blk.new w 32 #[.int .i64 4, .int .i64 p, .int .i64 v]
  obtain ⟨H, hH⟩ : ∃ H, w.heap.size = H := ⟨_, rfl⟩
  obtain ⟨w1, hw1⟩ : ∃ w1, w.alloc (.cells #[.int .i64 4, .int .i64 p, .int .i64 v] 32) = w1 := ⟨_, rfl⟩
  have HT := Lib.hid (show Turn (fun k => k = bm) w w1 from hw1 ▸ Turn.of_below hb1)
  rw [hw1] at hS1 hk1
  rw [hH] at hk1
  have HX := Lib.hid hS1
  have HY := Lib.hid hk1
  have ha0 := hk1.cell 0
  have ha1 := hk1.cell 1
  have ha2 := hk1.cell 2
  simp only [List.getElem?_toArray, List.getElem?_cons_zero, List.getElem?_cons_succ] at ha0 ha1 ha2
  have HW := Lib.hid hw1
  have HHh := Lib.hid hH
  have KK := Lib.hid (fun w => ikeys_any w p)
  have KV := Lib.hid (fun w => ivals_any w v)
  have G1 := Lib.hid (decide_eq_true hp)
  have G2 := Lib.hid (decide_eq_true hv)
  have HF := Lib.hid (kfit hp)
  clear h hp hv hb1 hS1 hk1 hw1 hH
  go_enter Try.func32, Try.ntmps32
  go_wp2_with fail
  rw [HW.out, HHh.out]
  go_wp2_with fail
  refine (KK.out _).mono ?_
  rintro e w' ⟨rfl, rfl⟩
  rw [G1.out]
  go_wp2_with fail
  refine (KV.out _).mono ?_
  rintro e w' ⟨rfl, rfl⟩
  rw [G2.out]
  have hc0 := HX.out.blk.cell 0
  have hd0 := (HX.out.drewN 1).blk.cell 0
  have hl := HX.out.peep HF.out
  have hld := (HX.out.drewN 1).peep HF.out
  have hb1 := (HY.out.drewN 1).cell 1
  simp only [List.getElem?_toArray, List.getElem?_cons_zero, List.getElem?_cons_succ] at hc0 hd0 hb1
  have hd0 : w1.drew.cell? ⟨sb, 0, none⟩ = some (.map (some bm)) := hd0
  have hb1 : w1.drew.cell? ⟨H, 1, none⟩ = some (.int .i64 p) := hb1
  have hld : (Instr.lookup 78 (.map (some bm)) (.int .i64 p) false).run Try.prog w1.drew = .ok (.int .i64 (V.val p)) w1.drew := hld
  go_wp2_with fail
  go_region
  obtain ⟨w2, hw2⟩ : ∃ w2, w1.drew = w2 := ⟨_, rfl⟩
  have HX2 := Lib.hid (show St w2 sb bm N V from hw2 ▸ HX.out.drewN 1)
  have HY2 := Lib.hid (show Blk w2 H 32 #[.int .i64 4, .int .i64 p, .int .i64 v] from hw2 ▸ HY.out.drewN 1)
  have HT2 := Lib.hid (show Turn (fun k => k = bm) w w2 from hw2 ▸ HT.out.drewN 1)
  rw [hw2]
  have b0 := HY2.out.cell 0
  have b1 := HY2.out.cell 1
  have b2 := HY2.out.cell 2
  have b3 := HX2.out.blk.cell 0
  simp only [List.getElem?_toArray, List.getElem?_cons_zero, List.getElem?_cons_succ] at b0 b1 b2 b3
  clear ha0 ha1 ha2 hc0 hd0 hl hld hb1 hw2
  obtain ⟨w3, hrun, hc3, ht3⟩ := (show St w2.drew sb bm N V from HX2.out.drewN 1).drop HF.out 0
  have HX3 := Lib.hid hc3
  have HT3 := Lib.hid ((HT2.out.drewN 1).trans ht3)
  have e0 := (HX2.out.drewN 1).blk.cell 0
  have e1 := (HY2.out.drewN 1).cell 1
  simp only [List.getElem?_toArray, List.getElem?_cons_zero, List.getElem?_cons_succ] at e0 e1
  have e0 : w2.drew.cell? ⟨sb, 0, none⟩ = some (.map (some bm)) := e0
  have e1 : w2.drew.cell? ⟨H, 1, none⟩ = some (.int .i64 p) := e1
  clear hc3 ht3
  go_wp2_with fail
  go_region
  go_wp2_with fail
  go_ret
  exact ⟨rfl, HX3.out, HT3.out⟩

theorem sapply_any {w : World} {sb bm N : Nat} {V : Kv} (h : St w sb bm N V) (hN : N < maxLen) (kd p v : Int) :
    Calls Try.prog 32 #[.pointer (some ⟨sb, 0, none⟩), .agg #[.int .i64 kd, .int .i64 p, .int .i64 v]] w fun e w' => e = .returned (.int .i64 (storeS V kd p v).1) ∧ St w' sb bm (N + 1) (storeS V kd p v).2 ∧ Turn (fun k => k = bm) w w' := by
  unfold storeS
  by_cases hm : mayOp p v = false
  · rw [if_pos hm]
    exact (sapply_bad h hm).mono fun _ _ ⟨a, b, c⟩ => ⟨a, b.mono (Nat.le_succ _), c⟩
  rw [if_neg hm]
  obtain ⟨hp, hv⟩ := mayOp_spec (by simpa using hm)
  by_cases k1 : kd = 1
  · subst k1
    exact sapply_put h hN hp hv
  by_cases k2 : kd = 2
  · subst k2
    exact (sapply_get h hp hv).mono fun _ _ ⟨a, b, c⟩ => ⟨a, b.mono (Nat.le_succ _), c⟩
  by_cases k3 : kd = 3
  · subst k3
    simp only [Int.reduceEq, if_false, if_true]
    by_cases hr : -2147483648 < V.val p + v ∧ V.val p + v < 2147483648
    · rw [if_pos hr]
      exact sapply_add_in h hN hp hv hr
    · rw [if_neg hr]
      exact (sapply_add_out h hp hv hr).mono fun _ _ ⟨a, b, c⟩ => ⟨a, b.mono (Nat.le_succ _), c⟩
  by_cases k4 : kd = 4
  · subst k4
    exact (sapply_del h hp hv).mono fun _ _ ⟨a, b, c⟩ => ⟨a, b.mono (Nat.le_succ _), c⟩
  by_cases k5 : kd = 5
  · subst k5
    exact (sapply_sum h hp hv).mono fun _ _ ⟨a, b, c⟩ => ⟨a, b.mono (Nat.le_succ _), c⟩
  rw [if_neg k1, if_neg k2, if_neg k3, if_neg k4, if_neg k5]
  exact (sapply_none h hp hv k1 k2 k3 k4 k5).mono fun _ _ ⟨a, b, c⟩ => ⟨a, b.mono (Nat.le_succ _), c⟩
end Go.Proofs.Ytpjcedilkahpiaa
