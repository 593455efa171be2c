/- The law's own right: a store is what the document says. -/
import Derived.Test.YtnbmhcgalpnmeaaStoreTwo
import Derived.Test.YtnbmhcgalpnmeaaRefStore2
import Derived.Test.YtnbmhcgalpnmeaaRefAll
import Derived.Test.YtnbmhcgalpnmeaaSamePairs
namespace Go.Proofs.Ytnbmhcgalpnmeaa
open Go.RowKit Go.Maps

theorem Kv.Ok.off {V : Kv} (h : V.Ok) {k : Int} (hk : ¬ (0 ≤ k ∧ k < 64)) : V k = none := by
  cases e : V k with
  | none => rfl
  | some u => exact absurd (h k u e).1 hk
set_option maxHeartbeats 400000 in
set_option maxRecDepth 100000 in
theorem right_any {w : World} {sb bm N rb : Nat} {V : Kv} (h : St w sb bm N V) (hr : Rs w rb V) :
    Calls Try.prog 18 #[.pointer (some ⟨sb, 0, none⟩), .pointer (some ⟨rb, 0, none⟩)] w fun e w' => e = .returned (.bool true) ∧ Below w.heap.size w w' := by
  have HS := Lib.hid h
  have HR := Lib.hid hr
  clear h hr
  go_enter Try.func18, Try.ntmps18
  go_wp2_with fail
  refine (rall_any HR.out).mono ?_
  rintro e w1 ⟨v, rfl, ho1, hb1⟩
  obtain ⟨A, c, rfl, q1, q2⟩ := own_slice ho1
  clear q1 q2
  have HO1 := Lib.hid (has_rows ho1)
  have HS1 := Lib.hid (HS.out.below hb1)
  have HR1 := Lib.hid (HR.out.below hb1)
  have HB1 := Lib.hid hb1
  clear ho1 hb1
  go_wp2_with fail
  refine (sall_any HS1.out).mono ?_
  rintro e w2 ⟨v, rfl, ho2, hb2⟩
  obtain ⟨A2, c2, rfl, q1, q2⟩ := own_slice ho2
  clear q1 q2
  have HO2 := Lib.hid (has_rows ho2)
  have HO3 := Lib.hid ((HO1.out.below hb2 (Nat.le_refl _)).tight)
  have HS2 := Lib.hid (HS1.out.below hb2)
  have HR2 := Lib.hid (HR1.out.below hb2)
  have HB2 := Lib.hid (HB1.out.trans (hb2.mono HB1.out.size))
  have HLn := Lib.hid (V.upTo_len 64)
  have HLe := Lib.hid (show V.all.length ≤ 9223372036854775806 by have := HLn.out; unfold Kv.all; omega)
  have KS := Lib.hid (same_pairs A2 A c2 c V.all w2.heap.size w2 HLe.out HO2.out HO3.out)
  have KL := Lib.hid (fun (w3 : World) (h : St w3 sb bm N V) => slen_any h)
  obtain ⟨n, hn⟩ : ∃ n, V.all.length = n := ⟨_, rfl⟩
  rw [hn] at KS KL HLe
  rw [hn]
  clear ho2 hb2 hn
  go_wp2_with fail
  refine KS.out.mono ?_
  rintro e w3 ⟨rfl, nq, hw3⟩
  have HS3 := Lib.hid (show St w3 sb bm N V from hw3 ▸ HS2.out.drewN nq)
  have HR3 := Lib.hid (show Rs w3 rb V from hw3 ▸ Blk.drewN HR2.out nq)
  have HB3 := Lib.hid (show Below w.heap.size w w3 from hw3 ▸ below_drewN HB2.out nq)
  clear hw3
  go_wp2_with fail
  refine (KL.out _ HS3.out).mono ?_
  rintro e w4 ⟨rfl, rfl⟩
  go_wp2_with fail
  go_loopw [6] (fun x wr => ∃ j : Nat, x = .int .i64 ((j : Int) - 1) ∧ j ≤ 66 ∧ wr = w3) (fun x _ => 66 - ((intOf x) + 1).toNat)
  case atStart => exact ⟨0, rfl, by omega, rfl⟩
  case round =>
    obtain ⟨j, rfl, hj, he⟩ := hrel
    obtain rfl : w3 = wr := he.symm
    clear he
    by_cases h0 : j = 0
    · subst h0
      have E1 := Lib.hid (HS3.out.ok.off (k := ((0 : Nat) : Int) - 1) (by omega))
      have E2 := Lib.hid (show V.val (((0 : Nat) : Int) - 1) = 0 from by unfold Kv.val; rw [E1.out]; rfl)
      have HF := Lib.hid (show fit (((0 : Nat) : Int) - 1) from WalkArith.wf_i64 (by omega))
      go_wp2_with fail
      refine (sget_any HS3.out HF.out).mono ?_
      rintro e w5 ⟨rfl, rfl⟩
      rw [E1.out, E2.out]
      go_wp2_with fail
      go_roundw
      case rel => exact ⟨1, by go_num, by omega, by first | rfl | trivial⟩
      case measure => simp [intOf]
    · by_cases h1 : j ≤ 64
      · obtain ⟨k, rfl⟩ : ∃ k, j = k + 1 := ⟨j - 1, by omega⟩
        have e0 : ((k + 1 : Nat) : Int) - 1 = (k : Int) := by omega
        rw [e0]
        have hk : k < 64 := by omega
        have HF := Lib.hid (kfit (k := (k : Int)) ⟨by omega, by omega⟩)
        have d1 : w3.cell? ⟨rb, k, none⟩ = some (.int .i64 (V.val k)) := (Blk.cell HR3.out k).trans (stCells_val V hk)
        have d2 : w3.cell? ⟨rb, 64 + k, none⟩ = some (.bool (V k).isSome) := (Blk.cell HR3.out (64 + k)).trans (stCells_has V hk)
        have KG := Lib.hid (sget_any HS3.out HF.out)
        obtain ⟨u, hu⟩ : ∃ u, V.val (k : Int) = u := ⟨_, rfl⟩
        obtain ⟨b, hb⟩ : ∃ b, (V (k : Int)).isSome = b := ⟨_, rfl⟩
        rw [hu] at d1 KG
        rw [hb] at d2 KG
        clear hu hb h0 h1 e0
        have hk2 : (k : Int) ≤ 64 := by omega
        have hk3 : (0 : Int) ≤ (k : Int) := by omega
        have hk4 : (k : Int) < 64 := by omega
        clear hj
        cases b
        all_goals
          go_wp2_with fail
          refine KG.out.mono ?_
          rintro e w5 ⟨rfl, rfl⟩
          have g0 : decide ((0 : Int) ≤ (k : Int)) = true := by simp
          have g1 : decide ((k : Int) < 64) = true := by simp; omega
          have g2 : (u != u) = false := by simp
          go_wp2_with fail
          go_roundw
          case rel => exact ⟨k + 2, by go_num, by omega, by first | rfl | trivial⟩
          case measure => simp [intOf]; omega
      · by_cases h2 : j = 65
        · subst h2
          have E1 := Lib.hid (HS3.out.ok.off (k := ((65 : Nat) : Int) - 1) (by omega))
          have E2 := Lib.hid (show V.val (((65 : Nat) : Int) - 1) = 0 from by unfold Kv.val; rw [E1.out]; rfl)
          have HF := Lib.hid (show fit (((65 : Nat) : Int) - 1) from WalkArith.wf_i64 (by omega))
          go_wp2_with fail
          refine (sget_any HS3.out HF.out).mono ?_
          rintro e w5 ⟨rfl, rfl⟩
          rw [E1.out, E2.out]
          go_wp2_with fail
          go_roundw
          case rel => exact ⟨66, by go_num, by omega, by first | rfl | trivial⟩
          case measure => simp [intOf]
        · obtain rfl : j = 66 := by omega
          go_wp2_with fail
          go_ret
          exact ⟨rfl, HB3.out⟩
end Go.Proofs.Ytnbmhcgalpnmeaa
