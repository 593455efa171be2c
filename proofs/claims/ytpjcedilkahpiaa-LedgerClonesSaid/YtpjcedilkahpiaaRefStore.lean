/- The document's own store: Apply. -/
import Derived.Test.YtpjcedilkahpiaaStoreMath
import Derived.Test.YtpjcedilkahpiaaGears
import Derived.Test.YtpjcedilkahpiaaNotary
import Derived.Lib.Hide
import Derived.Deep.QuietTactic
import Derived.BigQuiet
import Derived.Deep.RegionLaw
import Derived.RegionTactic
import Derived.Deep.DeepCutAuto
namespace Go.Proofs.Ytpjcedilkahpiaa
open Go.RowKit

def valCells (V : Kv) : List Value := (List.range 64).map fun k : Nat => .int .i64 (V.val k)
def hasCells (V : Kv) : List Value := (List.range 64).map fun k : Nat => .bool (V k).isSome
def stCells (V : Kv) : Array Value := (valCells V ++ hasCells V).toArray
theorem stCells_val (V : Kv) {k : Nat} (h : k < 64) : (stCells V)[k]? = some (.int .i64 (V.val k)) := by
  simp [stCells, valCells, hasCells, h, List.getElem?_append]
theorem stCells_has (V : Kv) {k : Nat} (h : k < 64) : (stCells V)[64 + k]? = some (.bool (V k).isSome) := by
  simp [stCells, valCells, hasCells, h, List.getElem?_append]
theorem stCells_put (V : Kv) {k : Nat} (h : k < 64) (v : Int) : ((stCells V).setIfInBounds k (.int .i64 v)).setIfInBounds (64 + k) (.bool true) = stCells (V.put k v) := by
  apply Array.ext_getElem?
  intro j
  rcases Nat.lt_or_ge j 64 with h1 | h1
  · rw [stCells_val _ h1, Array.getElem?_setIfInBounds_ne (by omega)]
    by_cases e : k = j
    · subst e
      rw [Array.getElem?_setIfInBounds_self_of_lt (by simp [stCells, valCells, hasCells]; omega)]
      unfold Kv.val
      rw [Kv.put_same]
      rfl
    · rw [Array.getElem?_setIfInBounds_ne e, stCells_val _ h1]
      unfold Kv.val
      rw [Kv.put_other _ (by omega)]
  · rcases Nat.lt_or_ge j 128 with h2 | h2
    · obtain ⟨i, rfl⟩ : ∃ i, j = 64 + i := ⟨j - 64, by omega⟩
      rw [stCells_has _ (by omega)]
      by_cases e : k = i
      · subst e
        rw [Array.getElem?_setIfInBounds_self_of_lt (by simp [stCells, valCells, hasCells]; omega), Kv.put_same]
        rfl
      · rw [Array.getElem?_setIfInBounds_ne (by omega), Array.getElem?_setIfInBounds_ne (by omega), stCells_has _ (by omega), Kv.put_other _ (by omega)]
    · rw [Array.getElem?_eq_none (by simp [stCells, valCells, hasCells]; omega), Array.getElem?_eq_none (by simp [stCells, valCells, hasCells]; omega)]
theorem stCells_del (V : Kv) {k : Nat} (h : k < 64) : ((stCells V).setIfInBounds k (.int .i64 0)).setIfInBounds (64 + k) (.bool false) = stCells (V.del k) := by
  apply Array.ext_getElem?
  intro j
  rcases Nat.lt_or_ge j 64 with h1 | h1
  · rw [stCells_val _ h1, Array.getElem?_setIfInBounds_ne (by omega)]
    by_cases e : k = j
    · subst e
      rw [Array.getElem?_setIfInBounds_self_of_lt (by simp [stCells, valCells, hasCells]; omega)]
      unfold Kv.val
      rw [Kv.del_same]
      rfl
    · rw [Array.getElem?_setIfInBounds_ne e, stCells_val _ h1]
      unfold Kv.val
      rw [Kv.del_other _ (by omega)]
  · rcases Nat.lt_or_ge j 128 with h2 | h2
    · obtain ⟨i, rfl⟩ : ∃ i, j = 64 + i := ⟨j - 64, by omega⟩
      rw [stCells_has _ (by omega)]
      by_cases e : k = i
      · subst e
        rw [Array.getElem?_setIfInBounds_self_of_lt (by simp [stCells, valCells, hasCells]; omega), Kv.del_same]
        rfl
      · rw [Array.getElem?_setIfInBounds_ne (by omega), Array.getElem?_setIfInBounds_ne (by omega), stCells_has _ (by omega), Kv.del_other _ (by omega)]
    · rw [Array.getElem?_eq_none (by simp [stCells, valCells, hasCells]; omega), Array.getElem?_eq_none (by simp [stCells, valCells, hasCells]; omega)]
/-- The document's store in block rb. -/
def Rs (w : World) (rb : Nat) (V : Kv) : Prop := Blk w rb 56 (stCells V)
set_option maxHeartbeats 2000000 in
theorem rapply_bad {w : World} {rb : Nat} {V : Kv} (h : Rs w rb V) {kd key v : Int} (hm : mayOp key v = false) :
    Calls Try.prog 45 #[.pointer (some ⟨rb, 0, none⟩), .agg #[.int .i64 kd, .int .i64 key, .int .i64 v]] w fun e w' => e = .returned (.int .i64 0) ∧ Rs w' rb V ∧ Below w.heap.size w w' := by
  have HR := Lib.hid h
  have hbad : key < 0 ∨ (0 ≤ key ∧ 64 ≤ key) ∨ (0 ≤ key ∧ key < 64 ∧ v ≤ -2147483648) ∨ (0 ≤ key ∧ key < 64 ∧ -2147483648 < v ∧ 2147483648 ≤ v) := by
    have := of_decide_eq_false hm
    omega
  clear h hm
  rcases hbad with h1 | ⟨h0, h1⟩ | ⟨h0, h1, h2⟩ | ⟨h0, h1, h2, h3⟩
  all_goals
    go_enter Try.func45, Try.ntmps45
    go_wp2_with fail
    go_ret
    exact ⟨rfl, HR.out.below ((Below.refl _ _).alloc (Nat.le_refl _) _) (HR.out).lt, (Below.refl _ _).alloc (Nat.le_refl _) _⟩
set_option maxHeartbeats 4000000 in
theorem rapply_get {w : World} {rb : Nat} {V : Kv} (h : Rs w rb V) {key v : Int} (hm : mayOp key v = true) :
    Calls Try.prog 45 #[.pointer (some ⟨rb, 0, none⟩), .agg #[.int .i64 2, .int .i64 key, .int .i64 v]] w fun e w' => e = .returned (.int .i64 (V.val key)) ∧ Rs w' rb (V) ∧ Turn (fun k => k = rb) w w' := by
  obtain ⟨⟨h0, h1⟩, h2, h3⟩ := mayOp_spec hm
  obtain ⟨k, rfl⟩ := Int.eq_ofNat_of_zero_le h0
  have hk : k < 64 := by omega
  have hb1 : Below w.heap.size w (w.alloc (.cells #[.int .i64 2, .int .i64 (k : Int), .int .i64 v] 32)) := (Below.refl _ _).alloc (Nat.le_refl _) _
  have hR1 := Blk.below h hb1 (Blk.lt h)
  have hk1 := Blk.new w 32 #[.int .i64 2, .int .i64 (k : Int), .int .i64 v]
  have HN := Lib.hid (show rb < w.heap.size from Blk.lt h)
  obtain ⟨H, hH⟩ : ∃ H, w.heap.size = H := ⟨_, rfl⟩
  obtain ⟨w1, hw1⟩ : ∃ w1, w.alloc (.cells #[.int .i64 2, .int .i64 (k : Int), .int .i64 v] 32) = w1 := ⟨_, rfl⟩
  have HT := Lib.hid (show Turn (fun k => k = rb) w w1 from hw1 ▸ Turn.of_below hb1)
  rw [hw1] at hR1 hk1
  rw [hH] at hk1 HN
  have HX := Lib.hid hR1
  have HY := Lib.hid hk1
  have hv := (hR1.cell k).trans (stCells_val V hk)
  have ha0 := hk1.cell 0
  have ha1 := hk1.cell 1
  have ha2 := hk1.cell 2
  simp only [List.getElem?_toArray, List.getElem?_cons_zero, List.getElem?_cons_succ] at ha0 ha1 ha2
  have HW := Lib.hid hw1
  have HHh := Lib.hid hH
  clear h hm hb1 hR1 hk1 hw1 hH
  go_enter Try.func45, Try.ntmps45
  go_upto_region 1 with fail
  rw [HW.out, HHh.out]
  go_wp2_with fail
  go_quiet (fail)
  go_wp2_with fail
  go_ret
  exact ⟨rfl, HX.out.drewN nq, HT.out.drewN nq⟩
set_option maxHeartbeats 4000000 in
theorem rapply_put {w : World} {rb : Nat} {V : Kv} (h : Rs w rb V) {key v : Int} (hm : mayOp key v = true) :
    Calls Try.prog 45 #[.pointer (some ⟨rb, 0, none⟩), .agg #[.int .i64 1, .int .i64 key, .int .i64 v]] w fun e w' => e = .returned (.int .i64 (V.val key)) ∧ Rs w' rb (V.put key v) ∧ Turn (fun k => k = rb) w w' := by
  obtain ⟨⟨h0, h1⟩, h2, h3⟩ := mayOp_spec hm
  obtain ⟨k, rfl⟩ := Int.eq_ofNat_of_zero_le h0
  have hk : k < 64 := by omega
  have hb1 : Below w.heap.size w (w.alloc (.cells #[.int .i64 1, .int .i64 (k : Int), .int .i64 v] 32)) := (Below.refl _ _).alloc (Nat.le_refl _) _
  have hR1 := Blk.below h hb1 (Blk.lt h)
  have hk1 := Blk.new w 32 #[.int .i64 1, .int .i64 (k : Int), .int .i64 v]
  have HN := Lib.hid (show rb < w.heap.size from Blk.lt h)
  obtain ⟨H, hH⟩ : ∃ H, w.heap.size = H := ⟨_, rfl⟩
  obtain ⟨w1, hw1⟩ : ∃ w1, w.alloc (.cells #[.int .i64 1, .int .i64 (k : Int), .int .i64 v] 32) = w1 := ⟨_, rfl⟩
  have HT := Lib.hid (show Turn (fun k => k = rb) w w1 from hw1 ▸ Turn.of_below hb1)
  rw [hw1] at hR1 hk1
  rw [hH] at hk1 HN
  have HX := Lib.hid hR1
  have HY := Lib.hid hk1
  have hv := (hR1.cell k).trans (stCells_val V hk)
  have ha0 := hk1.cell 0
  have ha1 := hk1.cell 1
  have ha2 := hk1.cell 2
  simp only [List.getElem?_toArray, List.getElem?_cons_zero, List.getElem?_cons_succ] at ha0 ha1 ha2
  have HW := Lib.hid hw1
  have HHh := Lib.hid hH
  clear h hm hb1 hR1 hk1 hw1 hH
  go_enter Try.func45, Try.ntmps45
  go_upto_region 1 with fail
  rw [HW.out, HHh.out]
  go_wp2_with fail
  go_quiet (fail)
  obtain ⟨w2, hw2⟩ : ∃ w2, w1.drewN nq = w2 := ⟨_, rfl⟩
  have HX2 := Lib.hid (show Rs w2 rb V from hw2 ▸ HX.out.drewN nq)
  have HY2 := Lib.hid (show Blk w2 H 32 #[.int .i64 1, .int .i64 (k : Int), .int .i64 v] from hw2 ▸ HY.out.drewN nq)
  have HT2 := Lib.hid (show Turn (fun k => k = rb) w w2 from hw2 ▸ HT.out.drewN nq)
  rw [hw2]
  have b1 := (HY2.out.drewN 1).cell 1
  have b2 := (HY2.out.drewN 1).cell 2
  have f1 : (w2.drewN 1).frozen? ⟨rb, k, none⟩ = false := (HX2.out.drewN 1).frozen k
  have f2 : (w2.drewN 1).frozen? ⟨rb, 64 + k, none⟩ = false := (HX2.out.drewN 1).frozen (64 + k)
  simp only [List.getElem?_toArray, List.getElem?_cons_zero, List.getElem?_cons_succ] at b1 b2
  have b0 := HY2.out.cell 0
  simp only [List.getElem?_toArray, List.getElem?_cons_zero] at b0
  clear hv ha0 ha1 ha2 hw2
  have b1 : w2.drew.cell? ⟨H, 1, none⟩ = some (.int .i64 (k : Int)) := b1
  have b2 : w2.drew.cell? ⟨H, 2, none⟩ = some (.int .i64 v) := b2
  have f1 : w2.drew.frozen? ⟨rb, k, none⟩ = false := f1
  have f2 : w2.drew.frozen? ⟨rb, 64 + k, none⟩ = false := f2
  have hq : Blk w2.drew rb 56 (stCells V) := HX2.out.drewN 1
  have c1 : w2.drew.cell? ⟨rb, k, none⟩ = some (.int .i64 (V.val k)) := (hq.cell k).trans (stCells_val V hk)
  have c2 : w2.drew.cell? ⟨rb, 64 + k, none⟩ = some (.bool (V k).isSome) := (hq.cell (64 + k)).trans (stCells_has V hk)
  have g1 : w2.cell? ⟨rb, k, none⟩ = some (.int .i64 (V.val k)) := (Blk.cell HX2.out k).trans (stCells_val V hk)
  have g2 : w2.cell? ⟨rb, 64 + k, none⟩ = some (.bool (V k).isSome) := (Blk.cell HX2.out (64 + k)).trans (stCells_has V hk)
  have g3 : w2.frozen? ⟨rb, k, none⟩ = false := Blk.frozen HX2.out k
  have g4 : w2.frozen? ⟨rb, 64 + k, none⟩ = false := Blk.frozen HX2.out (64 + k)
  have hne : H ≠ rb := by have := HN.out; omega
  have y1 := (Blk.far HY2.out (p := ⟨rb, k, none⟩) hne (.int .i64 v)).cell 1
  have y2 := (Blk.far HY2.out (p := ⟨rb, k, none⟩) hne (.int .i64 v)).cell 2
  have y3 := (Blk.far HY2.out (p := ⟨rb, 64 + k, none⟩) hne (.bool true)).cell 1
  have y4 := (Blk.far HY2.out (p := ⟨rb, 64 + k, none⟩) hne (.bool true)).cell 2
  simp only [List.getElem?_toArray, List.getElem?_cons_zero, List.getElem?_cons_succ] at y1 y2 y3 y4
  have hs1 := hq.set_ k (.int .i64 v)
  have c3 : (w2.drew.setCell ⟨rb, k, none⟩ (.int .i64 v)).cell? ⟨rb, 64 + k, none⟩ = some (.bool (V k).isSome) := (hs1.cell (64 + k)).trans (by rw [Array.getElem?_setIfInBounds_ne (by omega)]; exact stCells_has V hk)
  have f3 : (w2.drew.setCell ⟨rb, k, none⟩ (.int .i64 v)).frozen? ⟨rb, 64 + k, none⟩ = false := hs1.frozen (64 + k)
  have HS := Lib.hid (hs1.set_ (64 + k) (.bool true))
  have HTz := Lib.hid (((HT2.out.drewN 1).set_ ⟨rb, k, none⟩ (.int .i64 v) rfl).set_ ⟨rb, 64 + k, none⟩ (.bool true) rfl)
  rw [stCells_put V hk] at HS
  clear hq hs1
  go_wp2_with fail
  go_region
  go_wp2_with fail
  go_ret
  exact ⟨rfl, HS.out, HTz.out⟩
set_option maxHeartbeats 4000000 in
theorem rapply_del {w : World} {rb : Nat} {V : Kv} (h : Rs w rb V) {key v : Int} (hm : mayOp key v = true) :
    Calls Try.prog 45 #[.pointer (some ⟨rb, 0, none⟩), .agg #[.int .i64 4, .int .i64 key, .int .i64 v]] w fun e w' => e = .returned (.int .i64 (V.val key)) ∧ Rs w' rb (V.del key) ∧ Turn (fun k => k = rb) w w' := by
  obtain ⟨⟨h0, h1⟩, h2, h3⟩ := mayOp_spec hm
  obtain ⟨k, rfl⟩ := Int.eq_ofNat_of_zero_le h0
  have hk : k < 64 := by omega
  have hb1 : Below w.heap.size w (w.alloc (.cells #[.int .i64 4, .int .i64 (k : Int), .int .i64 v] 32)) := (Below.refl _ _).alloc (Nat.le_refl _) _
  have hR1 := Blk.below h hb1 (Blk.lt h)
  have hk1 := Blk.new w 32 #[.int .i64 4, .int .i64 (k : Int), .int .i64 v]
  have HN := Lib.hid (show rb < w.heap.size from Blk.lt h)
  obtain ⟨H, hH⟩ : ∃ H, w.heap.size = H := ⟨_, rfl⟩
  obtain ⟨w1, hw1⟩ : ∃ w1, w.alloc (.cells #[.int .i64 4, .int .i64 (k : Int), .int .i64 v] 32) = w1 := ⟨_, rfl⟩
  have HT := Lib.hid (show Turn (fun k => k = rb) w w1 from hw1 ▸ Turn.of_below hb1)
  rw [hw1] at hR1 hk1
  rw [hH] at hk1 HN
  have HX := Lib.hid hR1
  have HY := Lib.hid hk1
  have hv := (hR1.cell k).trans (stCells_val V hk)
  have ha0 := hk1.cell 0
  have ha1 := hk1.cell 1
  have ha2 := hk1.cell 2
  simp only [List.getElem?_toArray, List.getElem?_cons_zero, List.getElem?_cons_succ] at ha0 ha1 ha2
  have HW := Lib.hid hw1
  have HHh := Lib.hid hH
  clear h hm hb1 hR1 hk1 hw1 hH
  go_enter Try.func45, Try.ntmps45
  go_upto_region 1 with fail
  rw [HW.out, HHh.out]
  go_wp2_with fail
  go_quiet (fail)
  obtain ⟨w2, hw2⟩ : ∃ w2, w1.drewN nq = w2 := ⟨_, rfl⟩
  have HX2 := Lib.hid (show Rs w2 rb V from hw2 ▸ HX.out.drewN nq)
  have HY2 := Lib.hid (show Blk w2 H 32 #[.int .i64 4, .int .i64 (k : Int), .int .i64 v] from hw2 ▸ HY.out.drewN nq)
  have HT2 := Lib.hid (show Turn (fun k => k = rb) w w2 from hw2 ▸ HT.out.drewN nq)
  rw [hw2]
  have b1 := (HY2.out.drewN 1).cell 1
  have b2 := (HY2.out.drewN 1).cell 2
  have f1 : (w2.drewN 1).frozen? ⟨rb, k, none⟩ = false := (HX2.out.drewN 1).frozen k
  have f2 : (w2.drewN 1).frozen? ⟨rb, 64 + k, none⟩ = false := (HX2.out.drewN 1).frozen (64 + k)
  simp only [List.getElem?_toArray, List.getElem?_cons_zero, List.getElem?_cons_succ] at b1 b2
  have b0 := HY2.out.cell 0
  simp only [List.getElem?_toArray, List.getElem?_cons_zero] at b0
  clear hv ha0 ha1 ha2 hw2
  have b1 : w2.drew.cell? ⟨H, 1, none⟩ = some (.int .i64 (k : Int)) := b1
  have b2 : w2.drew.cell? ⟨H, 2, none⟩ = some (.int .i64 v) := b2
  have f1 : w2.drew.frozen? ⟨rb, k, none⟩ = false := f1
  have f2 : w2.drew.frozen? ⟨rb, 64 + k, none⟩ = false := f2
  have hq : Blk w2.drew rb 56 (stCells V) := HX2.out.drewN 1
  have c1 : w2.drew.cell? ⟨rb, k, none⟩ = some (.int .i64 (V.val k)) := (hq.cell k).trans (stCells_val V hk)
  have c2 : w2.drew.cell? ⟨rb, 64 + k, none⟩ = some (.bool (V k).isSome) := (hq.cell (64 + k)).trans (stCells_has V hk)
  have g1 : w2.cell? ⟨rb, k, none⟩ = some (.int .i64 (V.val k)) := (Blk.cell HX2.out k).trans (stCells_val V hk)
  have g2 : w2.cell? ⟨rb, 64 + k, none⟩ = some (.bool (V k).isSome) := (Blk.cell HX2.out (64 + k)).trans (stCells_has V hk)
  have g3 : w2.frozen? ⟨rb, k, none⟩ = false := Blk.frozen HX2.out k
  have g4 : w2.frozen? ⟨rb, 64 + k, none⟩ = false := Blk.frozen HX2.out (64 + k)
  have hne : H ≠ rb := by have := HN.out; omega
  have y1 := (Blk.far HY2.out (p := ⟨rb, k, none⟩) hne (.int .i64 0)).cell 1
  have y2 := (Blk.far HY2.out (p := ⟨rb, k, none⟩) hne (.int .i64 0)).cell 2
  have y3 := (Blk.far HY2.out (p := ⟨rb, 64 + k, none⟩) hne (.bool false)).cell 1
  have y4 := (Blk.far HY2.out (p := ⟨rb, 64 + k, none⟩) hne (.bool false)).cell 2
  simp only [List.getElem?_toArray, List.getElem?_cons_zero, List.getElem?_cons_succ] at y1 y2 y3 y4
  have hs1 := hq.set_ k (.int .i64 0)
  have c3 : (w2.drew.setCell ⟨rb, k, none⟩ (.int .i64 0)).cell? ⟨rb, 64 + k, none⟩ = some (.bool (V k).isSome) := (hs1.cell (64 + k)).trans (by rw [Array.getElem?_setIfInBounds_ne (by omega)]; exact stCells_has V hk)
  have f3 : (w2.drew.setCell ⟨rb, k, none⟩ (.int .i64 0)).frozen? ⟨rb, 64 + k, none⟩ = false := hs1.frozen (64 + k)
  have HS := Lib.hid (hs1.set_ (64 + k) (.bool false))
  have HTz := Lib.hid (((HT2.out.drewN 1).set_ ⟨rb, k, none⟩ (.int .i64 0) rfl).set_ ⟨rb, 64 + k, none⟩ (.bool false) rfl)
  rw [stCells_del V hk] at HS
  clear hq hs1
  go_wp2_with fail
  go_region
  go_wp2_with fail
  go_ret
  exact ⟨rfl, HS.out, HTz.out⟩
end Go.Proofs.Ytpjcedilkahpiaa
