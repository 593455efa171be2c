/- Package store: All. -/
import Derived.Test.YtpjcedilkahpiaaStoreSum
import Derived.Test.YtpjcedilkahpiaaApps
namespace Go.Proofs.Ytpjcedilkahpiaa
open Go.RowKit Go.Maps

theorem pair_info : (Try.prog.info? 83).map (fun i => (i.zero, i.size, i.bytes)) = some (some (.agg #[.int .i64 0, .int .i64 0]), 2, 16) := by kernel_rfl
/-- While the keys are gone through. -/
structure Al (w : World) (V : Kv) (k : Nat) (v : Value) (wr : World) : Prop where
  row : wr.ownsRow w.heap.size 83 2 v (V.upTo k).length (pairCells (V.upTo k))
  low : Below w.heap.size w wr
set_option maxHeartbeats 2000000 in
set_option maxRecDepth 100000 in
theorem sall_any {w : World} {sb bm N : Nat} {V : Kv} (h : St w sb bm N V) :
    Calls Try.prog 47 #[.pointer (some ⟨sb, 0, none⟩)] w fun e w' => ∃ v, e = .returned v ∧ w'.ownsRow w.heap.size 83 2 v V.all.length (pairCells V.all) ∧ Below w.heap.size w w' := by
  obtain ⟨i0, hi0, hx0, hx1, hx2⟩ := info_parts pair_info
  have HC := Lib.hid h
  have HS0 := Lib.hid (show Al w V 0 (.slice none 0 0) w from ⟨World.ownsRow_nil _ _ _ _, Below.refl _ _⟩)
  clear h
  go_enter Try.func47, Try.ntmps47
  go_wp2_with fail
  go_loopw [3, 7] (fun v x wr => ∃ k : Nat, x = .int .i64 k ∧ k ≤ 64 ∧ Hid (Al w V k v wr)) (fun _ x _ => 64 - (intOf x).toNat)
  case atStart => exact ⟨0, rfl, by omega, HS0⟩
  case round =>
    obtain ⟨k, rfl, hk, HS⟩ := hrel
    obtain ⟨A, c, rfl, _, _⟩ := own_slice HS.out.row
    by_cases hlt : k < 64
    · have HCr := Lib.hid (HC.out.below HS.out.low)
      have hc0 := HCr.out.blk.cell 0
      simp only [List.getElem?_toArray, List.getElem?_cons_zero] at hc0
      have hl := HCr.out.look (p := (k : Int)) (kfit ⟨by omega, by omega⟩)
      cases hV : V (k : Int) with
      | none =>
        rw [hV] at hl
        simp only [Option.isSome_none] at hl
        have HS2 := Lib.hid (show Al w V (k + 1) (.slice A (V.upTo k).length c) wr from by
          have h1 := HS.out.row
          refine ⟨?_, HS.out.low⟩
          rw [Kv.upTo_none hV]
          exact h1)
        clear hV HS
        go_wp2_with fail
        go_roundw
        case rel => exact ⟨k + 1, by go_num, by omega, HS2⟩
        case measure => simp [intOf]; omega
      | some u =>
        have hval : V.val (k : Int) = u := by unfold Kv.val; rw [hV]; rfl
        rw [hV, hval] at hl
        simp only [Option.isSome_some] at hl
        have HB := Lib.hid (HS.out.low.alloc HS.out.low.size (.cells #[.int .i64 (k : Int), .int .i64 u] 83))
        have HO := Lib.hid (HS.out.row.alloc (.cells #[.int .i64 (k : Int), .int .i64 u] 83))
        have HN := Lib.hid (show Has (wr.alloc (.cells #[.int .i64 (k : Int), .int .i64 u] 83)) (wr.heap.size + 1) (some ⟨wr.heap.size, 0, none⟩) [.int .i64 (k : Int), .int .i64 u] from Has.fresh wr #[.int .i64 (k : Int), .int .i64 u] 83)
        have HOne := Lib.hid (pairCells_one [((k : Int), u)])
        have HLn := Lib.hid (V.upTo_len k)
        have HM3 := Lib.hid (show (V.upTo k).length + 1 ≤ maxLen by have := HLn.out; unfold maxLen; omega)
        have HM4 := Lib.hid (show ((V.upTo k).length + 1) * 16 ≤ 140737488355328 by have := HLn.out; omega)
        have HV := Lib.hid hV
        clear hV HS hval
        go_wp2_with (at_builtin; refine wpList_apps rfl _ _ 84 rfl w.heap.size 83 i0 (.agg #[.int .i64 0, .int .i64 0]) 2 16 Try.underlying84 hi0 hx0 hx1 hx2 rfl (by decide) _ _ _ rfl HO.out _ (some ⟨wr.heap.size, 0, none⟩) 1 1 [.int .i64 (k : Int), .int .i64 u] rfl rfl HN.out (fun h => nomatch h) HOne.out HM3.out HM4.out HB.out.size ?_)
        intro v2 w2 ho2 hg2 hl2
        have HS2 := Lib.hid (show Al w V (k + 1) v2 w2 from by
          refine ⟨?_, HB.out.grown hg2 HB.out.size (fun j hj => (HO.out.lt j hj).1)⟩
          rw [Kv.upTo_some HV.out, pairCells_app, List.length_append]
          exact ho2)
        clear ho2 hg2 hl2
        go_wp2_with fail
        go_roundw
        case rel => exact ⟨k + 1, by go_num, by omega, HS2⟩
        case measure => simp [intOf]; omega
    · obtain rfl : k = 64 := by omega
      clear hlt hk
      go_wp2_with fail
      go_ret
      exact ⟨_, rfl, HS.out.row, HS.out.low⟩
end Go.Proofs.Ytpjcedilkahpiaa
