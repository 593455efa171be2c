/- The document's own store, as a field of its ledger: Add, Sum; all kinds together. -/
import Derived.Test.YtpjcedilkahpiaaLedStore
namespace Go.Proofs.Ytpjcedilkahpiaa
open Go.RowKit

set_option maxHeartbeats 4000000 in
theorem dapply_add_in {w : World} {rb : Nat} {n : Int} {Z : Array Value} {V : Kv} (h : Rd n Z w rb V) {key v : Int} (hm : mayOp key v = true) (hok : V.Ok) (hr : -2147483648 < V.val key + v ∧ V.val key + v < 2147483648) :
    Calls Try.prog 45 #[.pointer (some ⟨rb, 1, none⟩), .agg #[.int .i64 3, .int .i64 key, .int .i64 v]] w fun e w' => e = .returned (.int .i64 (V.val key + v)) ∧ Rd n Z w' rb (V.put key (V.val key + v)) ∧ Turn (fun k => k = rb) w w' := by
  obtain ⟨⟨h0, h1⟩, h2, h3⟩ := mayOp_spec hm
  obtain ⟨k, rfl⟩ := Int.eq_ofNat_of_zero_le h0
  have hk : k < 64 := by omega
  have hb1 : Below w.heap.size w (w.alloc (.cells #[.int .i64 3, .int .i64 (k : Int), .int .i64 v] 32)) := (Below.refl _ _).alloc (Nat.le_refl _) _
  have hR1 := Blk.below h hb1 (Blk.lt h)
  have hk1 := Blk.new w 32 #[.int .i64 3, .int .i64 (k : Int), .int .i64 v]
  have HN := Lib.hid (show rb < w.heap.size from Blk.lt h)
  obtain ⟨H, hH⟩ : ∃ H, w.heap.size = H := ⟨_, rfl⟩
  obtain ⟨w1, hw1⟩ : ∃ w1, w.alloc (.cells #[.int .i64 3, .int .i64 (k : Int), .int .i64 v] 32) = w1 := ⟨_, rfl⟩
  have HT := Lib.hid (show Turn (fun k => k = rb) w w1 from hw1 ▸ Turn.of_below hb1)
  rw [hw1] at hR1 hk1
  rw [hH] at hk1 HN
  have HX := Lib.hid hR1
  have HY := Lib.hid hk1
  have hv := (hR1.cell (1 + k)).trans (led_val n Z V hk)
  have ha0 := hk1.cell 0
  have ha1 := hk1.cell 1
  have ha2 := hk1.cell 2
  simp only [List.getElem?_toArray, List.getElem?_cons_zero, List.getElem?_cons_succ] at ha0 ha1 ha2
  have HW := Lib.hid hw1
  have HHh := Lib.hid hH
  clear h hm hb1 hR1 hk1 hw1 hH
  obtain ⟨o1, o2⟩ := hok.val (k : Int)
  obtain ⟨x, hx⟩ : ∃ x, V.val (k : Int) + v = x := ⟨_, rfl⟩
  have HWr := Lib.hid (show IntKind.i64.wrap x = x from IntWalk.i64_in _ ⟨by omega, by omega⟩)
  have HW6 := Lib.hid (show wrap64 x = x from IntWalk.wrap64_in _ ⟨by omega, by omega⟩)
  have HXv := Lib.hid hx
  rw [hx] at hr
  have HRx := Lib.hid hr
  clear hok hr o1 o2 hx
  go_enter Try.func45, Try.ntmps45
  go_upto_region 1 with fail
  rw [HW.out, HHh.out]
  go_wp2_with fail
  go_quiet (fail)
  obtain ⟨w2, hw2⟩ : ∃ w2, w1.drewN nq = w2 := ⟨_, rfl⟩
  have HX2 := Lib.hid (show Rd n Z w2 rb V from hw2 ▸ HX.out.drewN nq)
  have HY2 := Lib.hid (show Blk w2 H 32 #[.int .i64 3, .int .i64 (k : Int), .int .i64 v] from hw2 ▸ HY.out.drewN nq)
  have HT2 := Lib.hid (show Turn (fun k => k = rb) w w2 from hw2 ▸ HT.out.drewN nq)
  rw [hw2]
  have b1 := (HY2.out.drewN 1).cell 1
  have b2 := (HY2.out.drewN 1).cell 2
  have f1 : (w2.drewN 1).frozen? ⟨rb, 1 + k, none⟩ = false := (HX2.out.drewN 1).frozen (1 + k)
  have f2 : (w2.drewN 1).frozen? ⟨rb, 65 + k, none⟩ = false := (HX2.out.drewN 1).frozen (65 + k)
  simp only [List.getElem?_toArray, List.getElem?_cons_zero, List.getElem?_cons_succ] at b1 b2
  have b0 := HY2.out.cell 0
  simp only [List.getElem?_toArray, List.getElem?_cons_zero] at b0
  clear hv ha0 ha1 ha2 hw2
  have b1 : w2.drew.cell? ⟨H, 1, none⟩ = some (.int .i64 (k : Int)) := b1
  have b2 : w2.drew.cell? ⟨H, 2, none⟩ = some (.int .i64 v) := b2
  have f1 : w2.drew.frozen? ⟨rb, 1 + k, none⟩ = false := f1
  have f2 : w2.drew.frozen? ⟨rb, 65 + k, none⟩ = false := f2
  have hq : Blk w2.drew rb 59 (ledCells n V Z) := HX2.out.drewN 1
  have c1 : w2.drew.cell? ⟨rb, 1 + k, none⟩ = some (.int .i64 (V.val k)) := (hq.cell (1 + k)).trans (led_val n Z V hk)
  have c2 : w2.drew.cell? ⟨rb, 65 + k, none⟩ = some (.bool (V k).isSome) := (hq.cell (65 + k)).trans (led_has n Z V hk)
  have g1 : w2.cell? ⟨rb, 1 + k, none⟩ = some (.int .i64 (V.val k)) := (Blk.cell HX2.out (1 + k)).trans (led_val n Z V hk)
  have g2 : w2.cell? ⟨rb, 65 + k, none⟩ = some (.bool (V k).isSome) := (Blk.cell HX2.out (65 + k)).trans (led_has n Z V hk)
  have g3 : w2.frozen? ⟨rb, 1 + k, none⟩ = false := Blk.frozen HX2.out (1 + k)
  have g4 : w2.frozen? ⟨rb, 65 + k, none⟩ = false := Blk.frozen HX2.out (65 + k)
  have hne : H ≠ rb := by have := HN.out; omega
  have y1 := (Blk.far HY2.out (p := ⟨rb, 1 + k, none⟩) hne (.int .i64 x)).cell 1
  have y2 := (Blk.far HY2.out (p := ⟨rb, 1 + k, none⟩) hne (.int .i64 x)).cell 2
  have y3 := (Blk.far HY2.out (p := ⟨rb, 65 + k, none⟩) hne (.bool true)).cell 1
  have y4 := (Blk.far HY2.out (p := ⟨rb, 65 + k, none⟩) hne (.bool true)).cell 2
  simp only [List.getElem?_toArray, List.getElem?_cons_zero, List.getElem?_cons_succ] at y1 y2 y3 y4
  have hs1 := hq.set_ (1 + k) (.int .i64 x)
  have c3 : (w2.drew.setCell ⟨rb, 1 + k, none⟩ (.int .i64 x)).cell? ⟨rb, 65 + k, none⟩ = some (.bool (V k).isSome) := (hs1.cell (65 + k)).trans (by rw [Array.getElem?_setIfInBounds_ne (by omega)]; exact led_has n Z V hk)
  have f3 : (w2.drew.setCell ⟨rb, 1 + k, none⟩ (.int .i64 x)).frozen? ⟨rb, 65 + k, none⟩ = false := hs1.frozen (65 + k)
  have HS := Lib.hid (hs1.set_ (65 + k) (.bool true))
  have HTz := Lib.hid (((HT2.out.drewN 1).set_ ⟨rb, 1 + k, none⟩ (.int .i64 x) rfl).set_ ⟨rb, 65 + k, none⟩ (.bool true) rfl)
  rw [led_put n Z V hk] at HS
  clear hq hs1
  have b2w : w2.cell? ⟨H, 2, none⟩ = some (.int .i64 v) := by
    have := HY2.out.cell 2
    simpa only [List.getElem?_toArray, List.getElem?_cons_zero, List.getElem?_cons_succ] using this
  obtain ⟨r1, r2⟩ := HRx.out
  have hx := HXv.out
  have hwr := HWr.out
  have hw6 := HW6.out
  go_wp2_with fail
  go_region
  go_wp2_with fail
  go_ret
  refine ⟨by rw [HXv.out]; rfl, ?_, HTz.out⟩
  rw [HXv.out]
  exact HS.out

set_option maxHeartbeats 4000000 in
theorem dapply_none {w : World} {rb : Nat} {n : Int} {Z : Array Value} {V : Kv} (h : Rd n Z w rb V) {key v kd : Int} (hm : mayOp key v = true) (k1 : kd ≠ 1) (k2 : kd ≠ 2) (k3 : kd ≠ 3) (k4 : kd ≠ 4) (k5 : kd ≠ 5) :
    Calls Try.prog 45 #[.pointer (some ⟨rb, 1, none⟩), .agg #[.int .i64 kd, .int .i64 key, .int .i64 v]] w fun e w' => e = .returned (.int .i64 (0)) ∧ Rd n Z w' rb (V) ∧ Turn (fun k => k = rb) w w' := by
  obtain ⟨⟨h0, h1⟩, h2, h3⟩ := mayOp_spec hm
  obtain ⟨k, rfl⟩ := Int.eq_ofNat_of_zero_le h0
  have hk : k < 64 := by omega
  have hb1 : Below w.heap.size w (w.alloc (.cells #[.int .i64 kd, .int .i64 (k : Int), .int .i64 v] 32)) := (Below.refl _ _).alloc (Nat.le_refl _) _
  have hR1 := Blk.below h hb1 (Blk.lt h)
  have hk1 := Blk.new w 32 #[.int .i64 kd, .int .i64 (k : Int), .int .i64 v]
  have HN := Lib.hid (show rb < w.heap.size from Blk.lt h)
  obtain ⟨H, hH⟩ : ∃ H, w.heap.size = H := ⟨_, rfl⟩
  obtain ⟨w1, hw1⟩ : ∃ w1, w.alloc (.cells #[.int .i64 kd, .int .i64 (k : Int), .int .i64 v] 32) = w1 := ⟨_, rfl⟩
  have HT := Lib.hid (show Turn (fun k => k = rb) w w1 from hw1 ▸ Turn.of_below hb1)
  rw [hw1] at hR1 hk1
  rw [hH] at hk1 HN
  have HX := Lib.hid hR1
  have HY := Lib.hid hk1
  have hv := (hR1.cell (1 + k)).trans (led_val n Z V hk)
  have ha0 := hk1.cell 0
  have ha1 := hk1.cell 1
  have ha2 := hk1.cell 2
  simp only [List.getElem?_toArray, List.getElem?_cons_zero, List.getElem?_cons_succ] at ha0 ha1 ha2
  have HW := Lib.hid hw1
  have HHh := Lib.hid hH
  clear h hm hb1 hR1 hk1 hw1 hH
  go_enter Try.func45, Try.ntmps45
  go_upto_region 1 with fail
  rw [HW.out, HHh.out]
  go_wp2_with fail
  go_quiet (fail)
  obtain ⟨w2, hw2⟩ : ∃ w2, w1.drewN nq = w2 := ⟨_, rfl⟩
  have HX2 := Lib.hid (show Rd n Z w2 rb V from hw2 ▸ HX.out.drewN nq)
  have HT2 := Lib.hid (show Turn (fun k => k = rb) w w2 from hw2 ▸ HT.out.drewN nq)
  have hy2 : Blk w2 H 32 #[.int .i64 kd, .int .i64 (k : Int), .int .i64 v] := hw2 ▸ HY.out.drewN nq
  have b0 := hy2.cell 0
  have b2 := hy2.cell 2
  simp only [List.getElem?_toArray, List.getElem?_cons_zero, List.getElem?_cons_succ] at b0 b2
  rw [hw2]
  clear hv ha0 ha1 ha2 hw2 hy2
  go_wp2_with fail
  go_ret
  exact ⟨rfl, HX2.out, HT2.out⟩

set_option maxHeartbeats 4000000 in
theorem dapply_add_out {w : World} {rb : Nat} {n : Int} {Z : Array Value} {V : Kv} (h : Rd n Z w rb V) {key v : Int} (hm : mayOp key v = true) (hok : V.Ok) (hr : ¬ (-2147483648 < V.val key + v ∧ V.val key + v < 2147483648)) :
    Calls Try.prog 45 #[.pointer (some ⟨rb, 1, none⟩), .agg #[.int .i64 3, .int .i64 key, .int .i64 v]] w fun e w' => e = .returned (.int .i64 (V.val key)) ∧ Rd n Z w' rb (V) ∧ Turn (fun k => k = rb) w w' := by
  obtain ⟨⟨h0, h1⟩, h2, h3⟩ := mayOp_spec hm
  obtain ⟨k, rfl⟩ := Int.eq_ofNat_of_zero_le h0
  have hk : k < 64 := by omega
  have hb1 : Below w.heap.size w (w.alloc (.cells #[.int .i64 3, .int .i64 (k : Int), .int .i64 v] 32)) := (Below.refl _ _).alloc (Nat.le_refl _) _
  have hR1 := Blk.below h hb1 (Blk.lt h)
  have hk1 := Blk.new w 32 #[.int .i64 3, .int .i64 (k : Int), .int .i64 v]
  have HN := Lib.hid (show rb < w.heap.size from Blk.lt h)
  obtain ⟨H, hH⟩ : ∃ H, w.heap.size = H := ⟨_, rfl⟩
  obtain ⟨w1, hw1⟩ : ∃ w1, w.alloc (.cells #[.int .i64 3, .int .i64 (k : Int), .int .i64 v] 32) = w1 := ⟨_, rfl⟩
  have HT := Lib.hid (show Turn (fun k => k = rb) w w1 from hw1 ▸ Turn.of_below hb1)
  rw [hw1] at hR1 hk1
  rw [hH] at hk1 HN
  have HX := Lib.hid hR1
  have HY := Lib.hid hk1
  have hv := (hR1.cell (1 + k)).trans (led_val n Z V hk)
  have ha0 := hk1.cell 0
  have ha1 := hk1.cell 1
  have ha2 := hk1.cell 2
  simp only [List.getElem?_toArray, List.getElem?_cons_zero, List.getElem?_cons_succ] at ha0 ha1 ha2
  have HW := Lib.hid hw1
  have HHh := Lib.hid hH
  clear h hm hb1 hR1 hk1 hw1 hH
  obtain ⟨o1, o2⟩ := hok.val (k : Int)
  obtain ⟨x, hx⟩ : ∃ x, V.val (k : Int) + v = x := ⟨_, rfl⟩
  have HWr := Lib.hid (show IntKind.i64.wrap x = x from IntWalk.i64_in _ ⟨by omega, by omega⟩)
  have HW6 := Lib.hid (show wrap64 x = x from IntWalk.wrap64_in _ ⟨by omega, by omega⟩)
  have HXv := Lib.hid hx
  rw [hx] at hr
  have HRx := Lib.hid (show x ≤ -2147483648 ∨ (-2147483648 < x ∧ 2147483648 ≤ x) by omega)
  clear hok hr o1 o2 hx
  go_enter Try.func45, Try.ntmps45
  go_upto_region 1 with fail
  rw [HW.out, HHh.out]
  go_wp2_with fail
  go_quiet (fail)
  obtain ⟨w2, hw2⟩ : ∃ w2, w1.drewN nq = w2 := ⟨_, rfl⟩
  have HX2 := Lib.hid (show Rd n Z w2 rb V from hw2 ▸ HX.out.drewN nq)
  have HT2 := Lib.hid (show Turn (fun k => k = rb) w w2 from hw2 ▸ HT.out.drewN nq)
  have hy2 : Blk w2 H 32 #[.int .i64 3, .int .i64 (k : Int), .int .i64 v] := hw2 ▸ HY.out.drewN nq
  have b0 := hy2.cell 0
  have b2 := hy2.cell 2
  simp only [List.getElem?_toArray, List.getElem?_cons_zero, List.getElem?_cons_succ] at b0 b2
  rw [hw2]
  clear hv ha0 ha1 ha2 hw2 hy2
  have hx := HXv.out
  have hwr := HWr.out
  have hw6 := HW6.out
  rcases HRx.out with r1 | ⟨r1, r2⟩
  all_goals
    go_wp2_with fail
    go_ret
    exact ⟨rfl, HX2.out, HT2.out⟩

set_option maxRecDepth 100000 in
set_option maxHeartbeats 4000000 in
theorem dapply_sum {w : World} {rb : Nat} {n : Int} {Z : Array Value} {V : Kv} (h : Rd n Z w rb V) {key v : Int} (hm : mayOp key v = true) (hok : V.Ok) :
    Calls Try.prog 45 #[.pointer (some ⟨rb, 1, none⟩), .agg #[.int .i64 5, .int .i64 key, .int .i64 v]] w fun e w' => e = .returned (.int .i64 (V.sum)) ∧ Rd n Z w' rb (V) ∧ Turn (fun k => k = rb) w w' := by
  obtain ⟨⟨h0, h1⟩, h2, h3⟩ := mayOp_spec hm
  obtain ⟨k, rfl⟩ := Int.eq_ofNat_of_zero_le h0
  have hk : k < 64 := by omega
  have hb1 : Below w.heap.size w (w.alloc (.cells #[.int .i64 5, .int .i64 (k : Int), .int .i64 v] 32)) := (Below.refl _ _).alloc (Nat.le_refl _) _
  have hR1 := Blk.below h hb1 (Blk.lt h)
  have hk1 := Blk.new w 32 #[.int .i64 5, .int .i64 (k : Int), .int .i64 v]
  have HN := Lib.hid (show rb < w.heap.size from Blk.lt h)
  obtain ⟨H, hH⟩ : ∃ H, w.heap.size = H := ⟨_, rfl⟩
  obtain ⟨w1, hw1⟩ : ∃ w1, w.alloc (.cells #[.int .i64 5, .int .i64 (k : Int), .int .i64 v] 32) = w1 := ⟨_, rfl⟩
  have HT := Lib.hid (show Turn (fun k => k = rb) w w1 from hw1 ▸ Turn.of_below hb1)
  rw [hw1] at hR1 hk1
  rw [hH] at hk1 HN
  have HX := Lib.hid hR1
  have HY := Lib.hid hk1
  have hv := (hR1.cell (1 + k)).trans (led_val n Z V hk)
  have ha0 := hk1.cell 0
  have ha1 := hk1.cell 1
  have ha2 := hk1.cell 2
  simp only [List.getElem?_toArray, List.getElem?_cons_zero, List.getElem?_cons_succ] at ha0 ha1 ha2
  have HW := Lib.hid hw1
  have HHh := Lib.hid hH
  clear h hm hb1 hR1 hk1 hw1 hH
  have HO := Lib.hid hok
  clear hok
  go_enter Try.func45, Try.ntmps45
  go_upto_region 1 with fail
  rw [HW.out, HHh.out]
  go_wp2_with fail
  go_quiet (fail)
  obtain ⟨w2, hw2⟩ : ∃ w2, w1.drewN nq = w2 := ⟨_, rfl⟩
  have HX2 := Lib.hid (show Rd n Z w2 rb V from hw2 ▸ HX.out.drewN nq)
  have HT2 := Lib.hid (show Turn (fun k => k = rb) w w2 from hw2 ▸ HT.out.drewN nq)
  have hy2 : Blk w2 H 32 #[.int .i64 5, .int .i64 (k : Int), .int .i64 v] := hw2 ▸ HY.out.drewN nq
  have b0 := hy2.cell 0
  have b2 := hy2.cell 2
  simp only [List.getElem?_toArray, List.getElem?_cons_zero, List.getElem?_cons_succ] at b0 b2
  rw [hw2]
  clear hv ha0 ha1 ha2 hw2 hy2
  go_wp2_with fail
  go_loopw [7, 8] (fun v x wr => ∃ j : Nat, x = .int .i64 j ∧ v = .int .i64 (V.sumTo j) ∧ j ≤ 64 ∧ Hid (wr = w2)) (fun _ x _ => 64 - (intOf x).toNat)
  case atStart => exact ⟨0, rfl, rfl, by omega, by first | rfl | trivial | exact Lib.hid rfl⟩
  case round =>
    obtain ⟨j, rfl, rfl, hj, HE⟩ := hrel
    have he := HE.out
    subst he
    by_cases hlt : j < 64
    · have hvj := (Blk.cell HX2.out (1 + j)).trans (led_val n Z V hlt)
      have hin := Kv.sumTo_in HO.out j
      have hvl := HO.out.val (j : Int)
      have hs : V.sumTo (j + 1) = V.sumTo j + V.val j := rfl
      obtain ⟨x, hx⟩ : ∃ x, V.sumTo j + V.val (j : Int) = x := ⟨_, rfl⟩
      have hwr : IntKind.i64.wrap x = x := IntWalk.i64_in _ ⟨by omega, by omega⟩
      have hw6 : wrap64 x = x := IntWalk.wrap64_in _ ⟨by omega, by omega⟩
      have HS := Lib.hid (show x = V.sumTo (j + 1) by rw [hs, hx])
      clear hin hvl hs
      go_wp2_with fail
      go_roundw
      case rel => exact ⟨j + 1, by go_num, by rw [← HS.out], by omega, by first | rfl | trivial | exact Lib.hid rfl⟩
      case measure => simp [intOf]; omega
    · obtain rfl : j = 64 := by omega
      clear hlt hj
      go_wp2_with fail
      go_ret
      exact ⟨rfl, HX2.out, HT2.out⟩

theorem Rd.below {w w' : World} {rb : Nat} {n : Int} {Z : Array Value} {V : Kv} (h : Rd n Z w rb V) (hb : Below w.heap.size w w') : Rd n Z w' rb V := Blk.below h hb (Blk.lt h)
theorem dapply_any {w : World} {rb : Nat} {n : Int} {Z : Array Value} {V : Kv} (h : Rd n Z w rb V) (hok : V.Ok) (kd key v : Int) :
    Calls Try.prog 45 #[.pointer (some ⟨rb, 1, none⟩), .agg #[.int .i64 kd, .int .i64 key, .int .i64 v]] w fun e w' => e = .returned (.int .i64 (storeS V kd key v).1) ∧ Rd n Z w' rb (storeS V kd key v).2 ∧ Turn (fun k => k = rb) w w' := by
  unfold storeS
  by_cases hm : mayOp key v = false
  · rw [if_pos hm]
    exact (dapply_bad h hm).mono fun _ _ ⟨a, b, c⟩ => ⟨a, b, Turn.of_below c⟩
  rw [if_neg hm]
  have hm : mayOp key v = true := by simpa using hm
  by_cases k1 : kd = 1
  · subst k1
    exact dapply_put h hm
  by_cases k2 : kd = 2
  · subst k2
    exact dapply_get h hm
  by_cases k3 : kd = 3
  · subst k3
    simp only [Int.reduceEq, if_false, if_true]
    by_cases hr : -2147483648 < V.val key + v ∧ V.val key + v < 2147483648
    · rw [if_pos hr]
      exact dapply_add_in h hm hok hr
    · rw [if_neg hr]
      exact dapply_add_out h hm hok hr
  by_cases k4 : kd = 4
  · subst k4
    exact dapply_del h hm
  by_cases k5 : kd = 5
  · subst k5
    exact dapply_sum h hm hok
  rw [if_neg k1, if_neg k2, if_neg k3, if_neg k4, if_neg k5]
  exact dapply_none h hm k1 k2 k3 k4 k5
end Go.Proofs.Ytpjcedilkahpiaa
