/- The document's own store, as a field of its ledger: All. -/
import Derived.Test.YtpjcedilkahpiaaLedStore
import Derived.Test.YtpjcedilkahpiaaRefAll
namespace Go.Proofs.Ytpjcedilkahpiaa
open Go.RowKit

set_option maxHeartbeats 2000000 in
set_option maxRecDepth 100000 in
theorem dall_any {w : World} {rb : Nat} {n : Int} {Z : Array Value} {V : Kv} (h : Rd n Z w rb V) :
    Calls Try.prog 48 #[.pointer (some ⟨rb, 1, none⟩)] w fun e w' => ∃ v, e = .returned v ∧ w'.ownsRow w.heap.size 83 2 v V.all.length (pairCells V.all) ∧ Below w.heap.size w w' := by
  obtain ⟨i0, hi0, hx0, hx1, hx2⟩ := info_parts rpair_info
  have HC := Lib.hid h
  have HS0 := Lib.hid (show RAl w V 0 (.slice none 0 0) w from ⟨World.ownsRow_nil _ _ _ _, Below.refl _ _⟩)
  clear h
  go_enter Try.func48, Try.ntmps48
  go_wp2_with fail
  go_loopw [3, 4] (fun v x wr => ∃ k : Nat, x = .int .i64 k ∧ k ≤ 64 ∧ Hid (RAl w V k v wr)) (fun _ x _ => 64 - (intOf x).toNat)
  case atStart => exact ⟨0, rfl, by omega, HS0⟩
  case round =>
    obtain ⟨k, rfl, hk, HS⟩ := hrel
    obtain ⟨A, c, rfl, _, _⟩ := own_slice HS.out.row
    by_cases hlt : k < 64
    · have HCr := Lib.hid (Blk.below HC.out HS.out.low (Blk.lt HC.out))
      have c1 : wr.cell? ⟨rb, 1 + k, none⟩ = some (.int .i64 (V.val k)) := (HCr.out.cell (1 + k)).trans (led_val n Z V hlt)
      have c2 : wr.cell? ⟨rb, 65 + k, none⟩ = some (.bool (V k).isSome) := (HCr.out.cell (65 + k)).trans (led_has n Z V hlt)
      cases hV : V (k : Int) with
      | none =>
        rw [hV] at c2
        simp only [Option.isSome_none] at c2
        have HS2 := Lib.hid (show RAl w V (k + 1) (.slice A (V.upTo k).length c) wr from by
          have h1 := HS.out.row
          refine ⟨?_, HS.out.low⟩
          rw [Kv.upTo_none hV]
          exact h1)
        clear hV HS c1
        go_wp2_with fail
        go_roundw
        case rel => exact ⟨k + 1, by go_num, by omega, HS2⟩
        case measure => simp [intOf]; omega
      | some u =>
        have hval : V.val (k : Int) = u := by unfold Kv.val; rw [hV]; rfl
        rw [hV] at c2
        rw [hval] at c1
        simp only [Option.isSome_some] at c2
        have HB := Lib.hid (HS.out.low.alloc HS.out.low.size (.cells #[.int .i64 (k : Int), .int .i64 u] 83))
        have HO := Lib.hid (HS.out.row.alloc (.cells #[.int .i64 (k : Int), .int .i64 u] 83))
        have HN := Lib.hid (show Has (wr.alloc (.cells #[.int .i64 (k : Int), .int .i64 u] 83)) (wr.heap.size + 1) (some ⟨wr.heap.size, 0, none⟩) [.int .i64 (k : Int), .int .i64 u] from Has.fresh wr #[.int .i64 (k : Int), .int .i64 u] 83)
        have HOne := Lib.hid (pairCells_one [((k : Int), u)])
        have HLn := Lib.hid (V.upTo_len k)
        have HM3 := Lib.hid (show (V.upTo k).length + 1 ≤ maxLen by have := HLn.out; unfold maxLen; omega)
        have HM4 := Lib.hid (show ((V.upTo k).length + 1) * 16 ≤ 140737488355328 by have := HLn.out; omega)
        have HV := Lib.hid hV
        clear hV HS hval
        go_wp2_with (at_builtin; refine wpList_apps rfl _ _ 84 rfl w.heap.size 83 i0 (.agg #[.int .i64 0, .int .i64 0]) 2 16 Try.underlying84 hi0 hx0 hx1 hx2 rfl (by decide) _ _ _ rfl HO.out _ (some ⟨wr.heap.size, 0, none⟩) 1 1 [.int .i64 (k : Int), .int .i64 u] rfl rfl HN.out (fun h => nomatch h) HOne.out HM3.out HM4.out HB.out.size ?_)
        intro v2 w2 ho2 hg2 hl2
        have HS2 := Lib.hid (show RAl w V (k + 1) v2 w2 from by
          refine ⟨?_, HB.out.grown hg2 HB.out.size (fun j hj => (HO.out.lt j hj).1)⟩
          rw [Kv.upTo_some HV.out, pairCells_app, List.length_append]
          exact ho2)
        clear ho2 hg2 hl2
        go_wp2_with fail
        go_roundw
        case rel => exact ⟨k + 1, by go_num, by omega, HS2⟩
        case measure => simp [intOf]; omega
    · obtain rfl : k = 64 := by omega
      clear hlt hk
      go_wp2_with fail
      go_ret
      exact ⟨_, rfl, HS.out.row, HS.out.low⟩
end Go.Proofs.Ytpjcedilkahpiaa
