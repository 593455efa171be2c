/- The document's own store, as a field of its ledger: Apply. -/
import Derived.Test.YtpjcedilkahpiaaRefStore
namespace Go.Proofs.Ytpjcedilkahpiaa
open Go.RowKit

/-- The cells of the document's ledger: the number of clients, the store, the rest. -/
def ledCells (n : Int) (V : Kv) (Z : Array Value) : Array Value := #[.int .i64 n] ++ stCells V ++ Z
theorem stCells_len (V : Kv) : (stCells V).size = 128 := by simp [stCells, valCells, hasCells]
theorem app_get (a : Value) (S Z : Array Value) (hs : S.size = 128) {j : Nat} (h : j < 128) : (#[a] ++ S ++ Z)[1 + j]? = S[j]? := by
  rw [Array.getElem?_append_left (by rw [Array.size_append, hs]; show 1 + j < 1 + 128; omega), Array.getElem?_append_right (by show 1 ≤ 1 + j; omega)]
  show S[1 + j - 1]? = S[j]?
  rw [Nat.add_sub_cancel_left]
theorem app_rest (a : Value) (S Z : Array Value) (hs : S.size = 128) (j : Nat) : (#[a] ++ S ++ Z)[129 + j]? = Z[j]? := by
  have h2 : (#[a] ++ S).size = 129 := by rw [Array.size_append, hs]; rfl
  rw [Array.getElem?_append_right (by rw [h2]; omega), h2, Nat.add_sub_cancel_left]
theorem app_zero (a : Value) (S Z : Array Value) (hs : S.size = 128) : (#[a] ++ S ++ Z)[0]? = some a := by
  rw [Array.getElem?_append_left (by rw [Array.size_append, hs]; show 0 < 1 + 128; omega), Array.getElem?_append_left (by show 0 < 1; omega)]
  rfl
theorem app_size (a : Value) (S Z : Array Value) (hs : S.size = 128) : (#[a] ++ S ++ Z).size = 129 + Z.size := by
  rw [Array.size_append, Array.size_append, hs]
  rfl
theorem app_set (a : Value) (S Z : Array Value) (i : Nat) (u : Value) (hi : i < S.size) : (#[a] ++ S ++ Z).setIfInBounds (1 + i) u = #[a] ++ S.setIfInBounds i u ++ Z := by
  rw [Array.setIfInBounds_append_left (by rw [Array.size_append]; show 1 + i < 1 + S.size; omega), Array.setIfInBounds_append_right (by show 1 ≤ 1 + i; omega)]
  show #[a] ++ S.setIfInBounds (1 + i - 1) u ++ Z = _
  rw [Nat.add_sub_cancel_left]
theorem app_set_rest (a : Value) (S Z : Array Value) (hs : S.size = 128) (i : Nat) (u : Value) : (#[a] ++ S ++ Z).setIfInBounds (129 + i) u = #[a] ++ S ++ Z.setIfInBounds i u := by
  have h2 : (#[a] ++ S).size = 129 := by rw [Array.size_append, hs]; rfl
  rw [Array.setIfInBounds_append_right (by rw [h2]; omega), h2, Nat.add_sub_cancel_left]
theorem led_get (n : Int) (Z : Array Value) (V : Kv) {j : Nat} (h : j < 128) : (ledCells n V Z)[1 + j]? = (stCells V)[j]? := app_get _ _ Z (stCells_len V) h
theorem led_rest (n : Int) (Z : Array Value) (V : Kv) (j : Nat) : (ledCells n V Z)[129 + j]? = Z[j]? := app_rest _ _ Z (stCells_len V) j
theorem led_zero (n : Int) (Z : Array Value) (V : Kv) : (ledCells n V Z)[0]? = some (.int .i64 n) := app_zero _ _ Z (stCells_len V)
theorem led_size (n : Int) (Z : Array Value) (V : Kv) : (ledCells n V Z).size = 129 + Z.size := app_size _ _ Z (stCells_len V)
theorem led_set_rest (n : Int) (Z : Array Value) (V : Kv) (i : Nat) (u : Value) : (ledCells n V Z).setIfInBounds (129 + i) u = ledCells n V (Z.setIfInBounds i u) := app_set_rest _ _ Z (stCells_len V) i u
theorem led_val (n : Int) (Z : Array Value) (V : Kv) {k : Nat} (h : k < 64) : (ledCells n V Z)[1 + k]? = some (.int .i64 (V.val k)) := (led_get n Z V (by omega)).trans (stCells_val V h)
theorem led_has (n : Int) (Z : Array Value) (V : Kv) {k : Nat} (h : k < 64) : (ledCells n V Z)[65 + k]? = some (.bool (V k).isSome) := by
  rw [show 65 + k = 1 + (64 + k) by omega]
  exact (led_get n Z V (by omega)).trans (stCells_has V h)
set_option maxRecDepth 100000 in
theorem led_set (n : Int) (Z : Array Value) {V U : Kv} {k : Nat} {u v : Value} (h : ((stCells V).setIfInBounds k u).setIfInBounds (64 + k) v = stCells U) (hk : k < 64) :
    ((ledCells n V Z).setIfInBounds (1 + k) u).setIfInBounds (65 + k) v = ledCells n U Z := by
  unfold ledCells
  rw [app_set _ _ _ _ _ (by rw [stCells_len]; omega), show 65 + k = 1 + (64 + k) by omega, app_set _ _ _ _ _ (by rw [Array.size_setIfInBounds, stCells_len]; omega), h]
theorem led_put (n : Int) (Z : Array Value) (V : Kv) {k : Nat} (h : k < 64) (v : Int) : ((ledCells n V Z).setIfInBounds (1 + k) (.int .i64 v)).setIfInBounds (65 + k) (.bool true) = ledCells n (V.put k v) Z := led_set n Z (stCells_put V h v) h
theorem led_del (n : Int) (Z : Array Value) (V : Kv) {k : Nat} (h : k < 64) : ((ledCells n V Z).setIfInBounds (1 + k) (.int .i64 0)).setIfInBounds (65 + k) (.bool false) = ledCells n (V.del k) Z := led_set n Z (stCells_del V h) h
/-- The document's ledger in block rb. -/
def Rd (n : Int) (Z : Array Value) (w : World) (rb : Nat) (V : Kv) : Prop := Blk w rb 59 (ledCells n V Z)
set_option maxHeartbeats 2000000 in
theorem dapply_bad {w : World} {rb : Nat} {n : Int} {Z : Array Value} {V : Kv} (h : Rd n Z w rb V) {kd key v : Int} (hm : mayOp key v = false) :
    Calls Try.prog 45 #[.pointer (some ⟨rb, 1, none⟩), .agg #[.int .i64 kd, .int .i64 key, .int .i64 v]] w fun e w' => e = .returned (.int .i64 0) ∧ Rd n Z w' rb V ∧ Below w.heap.size w w' := by
  have HR := Lib.hid h
  have hbad : key < 0 ∨ (0 ≤ key ∧ 64 ≤ key) ∨ (0 ≤ key ∧ key < 64 ∧ v ≤ -2147483648) ∨ (0 ≤ key ∧ key < 64 ∧ -2147483648 < v ∧ 2147483648 ≤ v) := by
    have := of_decide_eq_false hm
    omega
  clear h hm
  rcases hbad with h1 | ⟨h0, h1⟩ | ⟨h0, h1, h2⟩ | ⟨h0, h1, h2, h3⟩
  all_goals
    go_enter Try.func45, Try.ntmps45
    go_wp2_with fail
    go_ret
    exact ⟨rfl, HR.out.below ((Below.refl _ _).alloc (Nat.le_refl _) _) (HR.out).lt, (Below.refl _ _).alloc (Nat.le_refl _) _⟩
set_option maxHeartbeats 4000000 in
theorem dapply_get {w : World} {rb : Nat} {n : Int} {Z : Array Value} {V : Kv} (h : Rd n Z w rb V) {key v : Int} (hm : mayOp key v = true) :
    Calls Try.prog 45 #[.pointer (some ⟨rb, 1, none⟩), .agg #[.int .i64 2, .int .i64 key, .int .i64 v]] w fun e w' => e = .returned (.int .i64 (V.val key)) ∧ Rd n Z w' rb (V) ∧ Turn (fun k => k = rb) w w' := by
  obtain ⟨⟨h0, h1⟩, h2, h3⟩ := mayOp_spec hm
  obtain ⟨k, rfl⟩ := Int.eq_ofNat_of_zero_le h0
  have hk : k < 64 := by omega
  have hb1 : Below w.heap.size w (w.alloc (.cells #[.int .i64 2, .int .i64 (k : Int), .int .i64 v] 32)) := (Below.refl _ _).alloc (Nat.le_refl _) _
  have hR1 := Blk.below h hb1 (Blk.lt h)
  have hk1 := Blk.new w 32 #[.int .i64 2, .int .i64 (k : Int), .int .i64 v]
  have HN := Lib.hid (show rb < w.heap.size from Blk.lt h)
  obtain ⟨H, hH⟩ : ∃ H, w.heap.size = H := ⟨_, rfl⟩
  obtain ⟨w1, hw1⟩ : ∃ w1, w.alloc (.cells #[.int .i64 2, .int .i64 (k : Int), .int .i64 v] 32) = w1 := ⟨_, rfl⟩
  have HT := Lib.hid (show Turn (fun k => k = rb) w w1 from hw1 ▸ Turn.of_below hb1)
  rw [hw1] at hR1 hk1
  rw [hH] at hk1 HN
  have HX := Lib.hid hR1
  have HY := Lib.hid hk1
  have hv := (hR1.cell (1 + k)).trans (led_val n Z V hk)
  have ha0 := hk1.cell 0
  have ha1 := hk1.cell 1
  have ha2 := hk1.cell 2
  simp only [List.getElem?_toArray, List.getElem?_cons_zero, List.getElem?_cons_succ] at ha0 ha1 ha2
  have HW := Lib.hid hw1
  have HHh := Lib.hid hH
  clear h hm hb1 hR1 hk1 hw1 hH
  go_enter Try.func45, Try.ntmps45
  go_upto_region 1 with fail
  rw [HW.out, HHh.out]
  go_wp2_with fail
  go_quiet (fail)
  go_wp2_with fail
  go_ret
  exact ⟨rfl, HX.out.drewN nq, HT.out.drewN nq⟩
set_option maxHeartbeats 4000000 in
theorem dapply_put {w : World} {rb : Nat} {n : Int} {Z : Array Value} {V : Kv} (h : Rd n Z w rb V) {key v : Int} (hm : mayOp key v = true) :
    Calls Try.prog 45 #[.pointer (some ⟨rb, 1, none⟩), .agg #[.int .i64 1, .int .i64 key, .int .i64 v]] w fun e w' => e = .returned (.int .i64 (V.val key)) ∧ Rd n Z w' rb (V.put key v) ∧ Turn (fun k => k = rb) w w' := by
  obtain ⟨⟨h0, h1⟩, h2, h3⟩ := mayOp_spec hm
  obtain ⟨k, rfl⟩ := Int.eq_ofNat_of_zero_le h0
  have hk : k < 64 := by omega
  have hb1 : Below w.heap.size w (w.alloc (.cells #[.int .i64 1, .int .i64 (k : Int), .int .i64 v] 32)) := (Below.refl _ _).alloc (Nat.le_refl _) _
  have hR1 := Blk.below h hb1 (Blk.lt h)
  have hk1 := Blk.new w 32 #[.int .i64 1, .int .i64 (k : Int), .int .i64 v]
  have HN := Lib.hid (show rb < w.heap.size from Blk.lt h)
  obtain ⟨H, hH⟩ : ∃ H, w.heap.size = H := ⟨_, rfl⟩
  obtain ⟨w1, hw1⟩ : ∃ w1, w.alloc (.cells #[.int .i64 1, .int .i64 (k : Int), .int .i64 v] 32) = w1 := ⟨_, rfl⟩
  have HT := Lib.hid (show Turn (fun k => k = rb) w w1 from hw1 ▸ Turn.of_below hb1)
  rw [hw1] at hR1 hk1
  rw [hH] at hk1 HN
  have HX := Lib.hid hR1
  have HY := Lib.hid hk1
  have hv := (hR1.cell (1 + k)).trans (led_val n Z V hk)
  have ha0 := hk1.cell 0
  have ha1 := hk1.cell 1
  have ha2 := hk1.cell 2
  simp only [List.getElem?_toArray, List.getElem?_cons_zero, List.getElem?_cons_succ] at ha0 ha1 ha2
  have HW := Lib.hid hw1
  have HHh := Lib.hid hH
  clear h hm hb1 hR1 hk1 hw1 hH
  go_enter Try.func45, Try.ntmps45
  go_upto_region 1 with fail
  rw [HW.out, HHh.out]
  go_wp2_with fail
  go_quiet (fail)
  obtain ⟨w2, hw2⟩ : ∃ w2, w1.drewN nq = w2 := ⟨_, rfl⟩
  have HX2 := Lib.hid (show Rd n Z w2 rb V from hw2 ▸ HX.out.drewN nq)
  have HY2 := Lib.hid (show Blk w2 H 32 #[.int .i64 1, .int .i64 (k : Int), .int .i64 v] from hw2 ▸ HY.out.drewN nq)
  have HT2 := Lib.hid (show Turn (fun k => k = rb) w w2 from hw2 ▸ HT.out.drewN nq)
  rw [hw2]
  have b1 := (HY2.out.drewN 1).cell 1
  have b2 := (HY2.out.drewN 1).cell 2
  have f1 : (w2.drewN 1).frozen? ⟨rb, 1 + k, none⟩ = false := (HX2.out.drewN 1).frozen (1 + k)
  have f2 : (w2.drewN 1).frozen? ⟨rb, 65 + k, none⟩ = false := (HX2.out.drewN 1).frozen (65 + k)
  simp only [List.getElem?_toArray, List.getElem?_cons_zero, List.getElem?_cons_succ] at b1 b2
  have b0 := HY2.out.cell 0
  simp only [List.getElem?_toArray, List.getElem?_cons_zero] at b0
  clear hv ha0 ha1 ha2 hw2
  have b1 : w2.drew.cell? ⟨H, 1, none⟩ = some (.int .i64 (k : Int)) := b1
  have b2 : w2.drew.cell? ⟨H, 2, none⟩ = some (.int .i64 v) := b2
  have f1 : w2.drew.frozen? ⟨rb, 1 + k, none⟩ = false := f1
  have f2 : w2.drew.frozen? ⟨rb, 65 + k, none⟩ = false := f2
  have hq : Blk w2.drew rb 59 (ledCells n V Z) := HX2.out.drewN 1
  have c1 : w2.drew.cell? ⟨rb, 1 + k, none⟩ = some (.int .i64 (V.val k)) := (hq.cell (1 + k)).trans (led_val n Z V hk)
  have c2 : w2.drew.cell? ⟨rb, 65 + k, none⟩ = some (.bool (V k).isSome) := (hq.cell (65 + k)).trans (led_has n Z V hk)
  have g1 : w2.cell? ⟨rb, 1 + k, none⟩ = some (.int .i64 (V.val k)) := (Blk.cell HX2.out (1 + k)).trans (led_val n Z V hk)
  have g2 : w2.cell? ⟨rb, 65 + k, none⟩ = some (.bool (V k).isSome) := (Blk.cell HX2.out (65 + k)).trans (led_has n Z V hk)
  have g3 : w2.frozen? ⟨rb, 1 + k, none⟩ = false := Blk.frozen HX2.out (1 + k)
  have g4 : w2.frozen? ⟨rb, 65 + k, none⟩ = false := Blk.frozen HX2.out (65 + k)
  have hne : H ≠ rb := by have := HN.out; omega
  have y1 := (Blk.far HY2.out (p := ⟨rb, 1 + k, none⟩) hne (.int .i64 v)).cell 1
  have y2 := (Blk.far HY2.out (p := ⟨rb, 1 + k, none⟩) hne (.int .i64 v)).cell 2
  have y3 := (Blk.far HY2.out (p := ⟨rb, 65 + k, none⟩) hne (.bool true)).cell 1
  have y4 := (Blk.far HY2.out (p := ⟨rb, 65 + k, none⟩) hne (.bool true)).cell 2
  simp only [List.getElem?_toArray, List.getElem?_cons_zero, List.getElem?_cons_succ] at y1 y2 y3 y4
  have hs1 := hq.set_ (1 + k) (.int .i64 v)
  have c3 : (w2.drew.setCell ⟨rb, 1 + k, none⟩ (.int .i64 v)).cell? ⟨rb, 65 + k, none⟩ = some (.bool (V k).isSome) := (hs1.cell (65 + k)).trans (by rw [Array.getElem?_setIfInBounds_ne (by omega)]; exact led_has n Z V hk)
  have f3 : (w2.drew.setCell ⟨rb, 1 + k, none⟩ (.int .i64 v)).frozen? ⟨rb, 65 + k, none⟩ = false := hs1.frozen (65 + k)
  have HS := Lib.hid (hs1.set_ (65 + k) (.bool true))
  have HTz := Lib.hid (((HT2.out.drewN 1).set_ ⟨rb, 1 + k, none⟩ (.int .i64 v) rfl).set_ ⟨rb, 65 + k, none⟩ (.bool true) rfl)
  rw [led_put n Z V hk] at HS
  clear hq hs1
  go_wp2_with fail
  go_region
  go_wp2_with fail
  go_ret
  exact ⟨rfl, HS.out, HTz.out⟩
set_option maxHeartbeats 4000000 in
theorem dapply_del {w : World} {rb : Nat} {n : Int} {Z : Array Value} {V : Kv} (h : Rd n Z w rb V) {key v : Int} (hm : mayOp key v = true) :
    Calls Try.prog 45 #[.pointer (some ⟨rb, 1, none⟩), .agg #[.int .i64 4, .int .i64 key, .int .i64 v]] w fun e w' => e = .returned (.int .i64 (V.val key)) ∧ Rd n Z w' rb (V.del key) ∧ Turn (fun k => k = rb) w w' := by
  obtain ⟨⟨h0, h1⟩, h2, h3⟩ := mayOp_spec hm
  obtain ⟨k, rfl⟩ := Int.eq_ofNat_of_zero_le h0
  have hk : k < 64 := by omega
  have hb1 : Below w.heap.size w (w.alloc (.cells #[.int .i64 4, .int .i64 (k : Int), .int .i64 v] 32)) := (Below.refl _ _).alloc (Nat.le_refl _) _
  have hR1 := Blk.below h hb1 (Blk.lt h)
  have hk1 := Blk.new w 32 #[.int .i64 4, .int .i64 (k : Int), .int .i64 v]
  have HN := Lib.hid (show rb < w.heap.size from Blk.lt h)
  obtain ⟨H, hH⟩ : ∃ H, w.heap.size = H := ⟨_, rfl⟩
  obtain ⟨w1, hw1⟩ : ∃ w1, w.alloc (.cells #[.int .i64 4, .int .i64 (k : Int), .int .i64 v] 32) = w1 := ⟨_, rfl⟩
  have HT := Lib.hid (show Turn (fun k => k = rb) w w1 from hw1 ▸ Turn.of_below hb1)
  rw [hw1] at hR1 hk1
  rw [hH] at hk1 HN
  have HX := Lib.hid hR1
  have HY := Lib.hid hk1
  have hv := (hR1.cell (1 + k)).trans (led_val n Z V hk)
  have ha0 := hk1.cell 0
  have ha1 := hk1.cell 1
  have ha2 := hk1.cell 2
  simp only [List.getElem?_toArray, List.getElem?_cons_zero, List.getElem?_cons_succ] at ha0 ha1 ha2
  have HW := Lib.hid hw1
  have HHh := Lib.hid hH
  clear h hm hb1 hR1 hk1 hw1 hH
  go_enter Try.func45, Try.ntmps45
  go_upto_region 1 with fail
  rw [HW.out, HHh.out]
  go_wp2_with fail
  go_quiet (fail)
  obtain ⟨w2, hw2⟩ : ∃ w2, w1.drewN nq = w2 := ⟨_, rfl⟩
  have HX2 := Lib.hid (show Rd n Z w2 rb V from hw2 ▸ HX.out.drewN nq)
  have HY2 := Lib.hid (show Blk w2 H 32 #[.int .i64 4, .int .i64 (k : Int), .int .i64 v] from hw2 ▸ HY.out.drewN nq)
  have HT2 := Lib.hid (show Turn (fun k => k = rb) w w2 from hw2 ▸ HT.out.drewN nq)
  rw [hw2]
  have b1 := (HY2.out.drewN 1).cell 1
  have b2 := (HY2.out.drewN 1).cell 2
  have f1 : (w2.drewN 1).frozen? ⟨rb, 1 + k, none⟩ = false := (HX2.out.drewN 1).frozen (1 + k)
  have f2 : (w2.drewN 1).frozen? ⟨rb, 65 + k, none⟩ = false := (HX2.out.drewN 1).frozen (65 + k)
  simp only [List.getElem?_toArray, List.getElem?_cons_zero, List.getElem?_cons_succ] at b1 b2
  have b0 := HY2.out.cell 0
  simp only [List.getElem?_toArray, List.getElem?_cons_zero] at b0
  clear hv ha0 ha1 ha2 hw2
  have b1 : w2.drew.cell? ⟨H, 1, none⟩ = some (.int .i64 (k : Int)) := b1
  have b2 : w2.drew.cell? ⟨H, 2, none⟩ = some (.int .i64 v) := b2
  have f1 : w2.drew.frozen? ⟨rb, 1 + k, none⟩ = false := f1
  have f2 : w2.drew.frozen? ⟨rb, 65 + k, none⟩ = false := f2
  have hq : Blk w2.drew rb 59 (ledCells n V Z) := HX2.out.drewN 1
  have c1 : w2.drew.cell? ⟨rb, 1 + k, none⟩ = some (.int .i64 (V.val k)) := (hq.cell (1 + k)).trans (led_val n Z V hk)
  have c2 : w2.drew.cell? ⟨rb, 65 + k, none⟩ = some (.bool (V k).isSome) := (hq.cell (65 + k)).trans (led_has n Z V hk)
  have g1 : w2.cell? ⟨rb, 1 + k, none⟩ = some (.int .i64 (V.val k)) := (Blk.cell HX2.out (1 + k)).trans (led_val n Z V hk)
  have g2 : w2.cell? ⟨rb, 65 + k, none⟩ = some (.bool (V k).isSome) := (Blk.cell HX2.out (65 + k)).trans (led_has n Z V hk)
  have g3 : w2.frozen? ⟨rb, 1 + k, none⟩ = false := Blk.frozen HX2.out (1 + k)
  have g4 : w2.frozen? ⟨rb, 65 + k, none⟩ = false := Blk.frozen HX2.out (65 + k)
  have hne : H ≠ rb := by have := HN.out; omega
  have y1 := (Blk.far HY2.out (p := ⟨rb, 1 + k, none⟩) hne (.int .i64 0)).cell 1
  have y2 := (Blk.far HY2.out (p := ⟨rb, 1 + k, none⟩) hne (.int .i64 0)).cell 2
  have y3 := (Blk.far HY2.out (p := ⟨rb, 65 + k, none⟩) hne (.bool false)).cell 1
  have y4 := (Blk.far HY2.out (p := ⟨rb, 65 + k, none⟩) hne (.bool false)).cell 2
  simp only [List.getElem?_toArray, List.getElem?_cons_zero, List.getElem?_cons_succ] at y1 y2 y3 y4
  have hs1 := hq.set_ (1 + k) (.int .i64 0)
  have c3 : (w2.drew.setCell ⟨rb, 1 + k, none⟩ (.int .i64 0)).cell? ⟨rb, 65 + k, none⟩ = some (.bool (V k).isSome) := (hs1.cell (65 + k)).trans (by rw [Array.getElem?_setIfInBounds_ne (by omega)]; exact led_has n Z V hk)
  have f3 : (w2.drew.setCell ⟨rb, 1 + k, none⟩ (.int .i64 0)).frozen? ⟨rb, 65 + k, none⟩ = false := hs1.frozen (65 + k)
  have HS := Lib.hid (hs1.set_ (65 + k) (.bool false))
  have HTz := Lib.hid (((HT2.out.drewN 1).set_ ⟨rb, 1 + k, none⟩ (.int .i64 0) rfl).set_ ⟨rb, 65 + k, none⟩ (.bool false) rfl)
  rw [led_del n Z V hk] at HS
  clear hq hs1
  go_wp2_with fail
  go_region
  go_wp2_with fail
  go_ret
  exact ⟨rfl, HS.out, HTz.out⟩
end Go.Proofs.Ytpjcedilkahpiaa
