/- The walk of LinkOrder. -/
import Derived.Test.YtpopchigboacaaaLinkLaws
import Derived.Laws.MakeOwn
namespace Go.Proofs.Ytpopchigboacaaa
open Go.RowKit Go.Sort

/-- The queue's list behind n pushes. -/
def ordL (n : Nat) : List (List Int) := (List.range n).map fun i : Nat => [(i : Int) % 256, (i : Int) / 256]
theorem ordL_len (n : Nat) : (ordL n).length = n := by simp [ordL]
theorem ordL_next (n : Nat) : ordL n ++ [[(n : Int) % 256, (n : Int) / 256]] = ordL (n + 1) := by simp [ordL, List.range_succ]
theorem ordL_get {n i k : Nat} (h : k < ((ordL n).drop i).length) : ((ordL n).drop i)[k] = [((i + k : Nat) : Int) % 256, ((i + k : Nat) : Int) / 256] := by simp [ordL]
theorem by_two {k : Nat} (h : k < 65536) : By [(k : Int) % 256, (k : Int) / 256] := ⟨by simp, fun x hx => by
  simp only [List.mem_cons, List.not_mem_nil, or_false] at hx
  rcases hx with rfl | rfl <;> omega⟩
theorem same_two (a b : Int) : sameB [a, b] [a, b] = true := by simp [sameB]
theorem cut_zero {α : Type} (L : List α) : cutL L 0 = L.drop 1 := by simp [cutL]
theorem made_zero (n : Nat) : (madeCells #[.int .u8 0] n).toList = u8s (List.replicate n 0) := by
  apply List.ext_getElem?
  intro j
  by_cases hj : j < n
  · simp [madeCells, u8s, hj, Nat.mod_one]
  · rw [List.getElem?_eq_none (by simp [madeCells]; omega), List.getElem?_eq_none (by simp [u8s]; omega)]
theorem run_make_bytes (n : Nat) (hn : n ≤ 70000) (w : World) :
    (Instr.makeSlice 27 (.int .i64 (n : Int)) (.int .i64 (n : Int))).run Try.prog w = .ok (.slice (some ⟨w.heap.size, 0, none⟩) n n) (w.alloc (.cells (madeCells #[.int .u8 0] n) 5)) := by
  obtain ⟨i0, hi0, hz0, hz1, hz2⟩ := info_parts Try.info5
  have hr := run_make (P := Try.prog) w 27 5 i0 _ Try.underlying27 hi0 hz0 .i64 .i64 n n (by omega) (by omega) (by rw [hz2]; omega) (by omega)
  simp only [Int.toNat_natCast] at hr
  rw [hz1, Nat.mul_one] at hr
  exact hr
theorem by_zeros {n : Nat} (h : n ≤ 65536) : By (List.replicate n 0) := ⟨by simpa using h, fun x hx => by rw [List.eq_of_mem_replicate hx]; omega⟩
set_option maxHeartbeats 2000000 in
set_option maxRecDepth 100000 in
theorem linkOrder_walk (a0 a1 : Int) (w : World) (w0 : (Lit.int .i64 a0).wf = true) (w1 : (Lit.int .i64 a1).wf = true) :
    Calls Try.prog 7 #[.int .i64 a0, .int .i64 a1] w fun e w' => e = .returned (.bool true) ∧ Below w.heap.size w w' := by
  have HW0 := Lib.hid (fun w => within_any a1 256 (by omega) (by omega) (wf_i64 w1).1 (wf_i64 w1).2 w)
  obtain ⟨r, hr⟩ : ∃ r : Nat, a1 % 256 = r := ⟨(a1 % 256).toNat, by omega⟩
  have hr9 : r < 256 := by omega
  rw [hr] at HW0
  obtain ⟨R, hR⟩ : ∃ R : Nat, 1 + r = R := ⟨_, rfl⟩
  have HRe := Lib.hid (show (1 : Int) + (r : Int) = (R : Int) by omega)
  have hR0 : 1 ≤ R := by omega
  have hR1 : R ≤ 256 := by omega
  have HW1 := Lib.hid (fun w => within_any a0 (2 * (R : Int) + 1) (by omega) (by omega) (wf_i64 w0).1 (wf_i64 w0).2 w)
  obtain ⟨n, hn⟩ : ∃ n : Nat, a0 % (2 * (R : Int) + 1) = n := ⟨(a0 % (2 * (R : Int) + 1)).toNat, by have := Int.emod_nonneg a0 (show (2 * (R : Int) + 1) ≠ 0 by omega); omega⟩
  have hn9 : n ≤ 2 * R := by have := Int.emod_lt_of_pos a0 (show 0 < (2 * (R : Int) + 1) by omega); omega
  rw [hn] at HW1
  have HNew := Lib.hid (fun w => qnew_any (room := R) (by omega) (by omega) w)
  have H1 := Lib.hid hR0
  have H2 := Lib.hid hR1
  have HN9 := Lib.hid hn9
  have hw1 : (1 : Int) + (r : Int) ≤ 1000 := by omega
  have hw2 : (2 : Int) * (R : Int) ≤ 1000 := by omega
  clear hr hR hn w0 w1 hn9
  obtain ⟨csA, hcA⟩ : ∃ c, madeCells #[.int .u8 0] 65537 = c := ⟨_, rfl⟩
  obtain ⟨csB, hcB⟩ : ∃ c, madeCells #[.int .u8 0] 65536 = c := ⟨_, rfl⟩
  have hmA : ∀ w : World, (Instr.makeSlice 27 (.int .i64 65537) (.int .i64 65537)).run Try.prog w = .ok (.slice (some ⟨w.heap.size, 0, none⟩) 65537 65537) (w.alloc (.cells csA 5)) := fun w => by
    rw [← hcA]
    exact run_make_bytes 65537 (by decide) w
  have hmB : ∀ w : World, (Instr.makeSlice 27 (.int .i64 65536) (.int .i64 65536)).run Try.prog w = .ok (.slice (some ⟨w.heap.size, 0, none⟩) 65536 65536) (w.alloc (.cells csB 5)) := fun w => by
    rw [← hcB]
    exact run_make_bytes 65536 (by decide) w
  obtain ⟨Z, hZ⟩ : ∃ Z, List.replicate 65536 (0 : Int) = Z := ⟨_, rfl⟩
  have HHB := Lib.hid (fun w : World => show Has (w.alloc (.cells csB 5)) (w.heap.size + 1) (some ⟨w.heap.size, 0, none⟩) (u8s Z) from by
    have h := Has.fresh w csB 5
    rw [← hcB, made_zero, hcB, hZ] at h
    exact h)
  have HBy := Lib.hid (show By Z from by rw [← hZ]; exact by_zeros (Nat.le_refl _))
  have HZl := Lib.hid (show Z.length = 65536 by rw [← hZ, List.length_replicate])
  clear hcA hcB hZ
  go_enter Try.func7, Try.ntmps7
  go_wp2_with fail
  refine (HW0.out _).mono ?_
  rintro e wa ⟨rfl, rfl⟩
  go_wp2_with fail
  rw [HRe.out]
  go_wp2_with fail
  refine (HW1.out _).mono ?_
  rintro e wa ⟨rfl, rfl⟩
  clear hw1 hw2
  go_wp2_with fail
  obtain ⟨qb, hqb⟩ : ∃ qb, w.heap.size = qb := ⟨_, rfl⟩
  have HQB := Lib.hid hqb
  refine (HNew.out w).mono ?_
  rintro e wx ⟨rfl, hq, hb⟩
  rw [hqb] at hq
  rw [hqb]
  have HQ := Lib.hid hq
  have HB := Lib.hid (show Below qb w wx from hqb ▸ hb)
  clear hq hb hqb
  go_wp2_with fail
  go_loopw [7] (fun x wr => ∃ i : Nat, x = .int .i64 i ∧ i ≤ n ∧ Hid (Qu (fun k => qb ≤ k) wr qb R ((i - R : Nat) : Int) (ordL (min i R))) ∧ Hid (Below qb w wr)) (fun x _ => n - (intOf x).toNat)
  case atStart => exact ⟨0, rfl, Nat.zero_le _, by simpa [ordL] using HQ, HB⟩
  case round =>
    obtain ⟨i, rfl, hi, HQi, HBi⟩ := hrel
    by_cases hlt : i < n
    · have h512 : i < 512 := by have := HN9.out; have := H2.out; omega
      have hw8 : IntKind.u8.wrap ((i : Int) / 256) = (i : Int) / 256 := by rw [IntKind.wrap_u8]; omega
      by_cases hir : i < R
      · have hd : decide ((i : Int) < (R : Int)) = true := decide_eq_true (by omega)
        have hmi : min i R = i := by omega
        have hsi : i - R = 0 := by omega
        have hm2 : min (i + 1) R = i + 1 := by omega
        have hs2 : i + 1 - R = 0 := by omega
        rw [hmi, hsi] at HQi
        have HP := Lib.hid (qpush_in (n := 2) (c := 2) (w := wr.alloc (.cells #[.int .u8 ((i : Int) % 256), .int .u8 ((i : Int) / 256)] 5)) (HQi.out.below ((Below.refl _ wr).alloc (Nat.le_refl _) _)) (by rw [ordL_len]; omega) (Has.fresh wr #[.int .u8 ((i : Int) % 256), .int .u8 ((i : Int) / 256)] 5 : Has _ _ _ (u8s [(i : Int) % 256, (i : Int) / 256])) rfl (by_two (by omega)))
        rw [ordL_next] at HP
        have hi8 : (i : Int) % 256 = i := by omega
        rw [hi8] at HP
        clear hmi hsi hi8
        go_wp2_with fail
        refine HP.out.mono ?_
        rintro e w2 ⟨rfl, hq2, ht2⟩
        have hs := HBi.out.size
        have HQ2 := Lib.hid (show Qu (fun k => qb ≤ k) w2 qb R ((i + 1 - R : Nat) : Int) (ordL (min (i + 1) R)) from by rw [hm2, hs2]; exact hq2.mono (fun j _ hj => hj.elim id (fun h => by have := HQB.out; simp at h; omega)))
        have h1 : Below qb w (wr.alloc (.cells #[.int .u8 (i : Int), .int .u8 ((i : Int) / 256)] 5)) := HBi.out.alloc (by have := HQB.out; omega) _
        have HB2 := Lib.hid (show Below qb w w2 from h1.trans (ht2.below (by have := HQB.out; simp; omega) (fun j hj hz => by have := hz.1; omega)))
        clear hq2 ht2 h1 hs hm2 hs2
        go_wp2_with fail
        go_roundw
        case rel => exact ⟨i + 1, by go_num, by omega, HQ2, HB2⟩
        case measure => simp [intOf]; omega
      · have hd : decide ((i : Int) < (R : Int)) = false := decide_eq_false (by omega)
        have hmi : min i R = R := by omega
        have hm2 : min (i + 1) R = R := by omega
        have hs2 : ((i - R : Nat) : Int) + 1 = ((i + 1 - R : Nat) : Int) := by omega
        rw [hmi] at HQi
        have HP := Lib.hid (qpush_out (A := some ⟨wr.heap.size, 0, none⟩) (n := 2) (c := 2) (w := wr.alloc (.cells #[.int .u8 ((i : Int) % 256), .int .u8 ((i : Int) / 256)] 5)) (HQi.out.below ((Below.refl _ wr).alloc (Nat.le_refl _) _)) (by omega) (by omega) (Or.inl (by rw [ordL_len])))
        rw [hs2] at HP
        clear hmi hs2
        go_wp2_with fail
        refine HP.out.mono ?_
        rintro e w2 ⟨rfl, hq2, ht2⟩
        have hs := HBi.out.size
        have HQ2 := Lib.hid (show Qu (fun k => qb ≤ k) w2 qb R ((i + 1 - R : Nat) : Int) (ordL (min (i + 1) R)) from by rw [hm2]; exact hq2.mono (fun j _ hj => hj.elim id (fun h => by have := HQB.out; simp at h; omega)))
        have h1 : Below qb w (wr.alloc (.cells #[.int .u8 ((i : Int) % 256), .int .u8 ((i : Int) / 256)] 5)) := HBi.out.alloc (by have := HQB.out; omega) _
        have HB2 := Lib.hid (show Below qb w w2 from h1.trans (ht2.below (by have := HQB.out; simp; omega) (fun j hj hz => by have := hz.1; omega)))
        clear hq2 ht2 h1 hs hm2
        go_wp2_with fail
        go_roundw
        case rel => exact ⟨i + 1, by go_num, by omega, HQ2, HB2⟩
        case measure => simp [intOf]; omega
    · obtain rfl : i = n := by omega
      obtain ⟨m, hm⟩ : ∃ m, min i R = m := ⟨_, rfl⟩
      have HM := Lib.hid hm
      have hmI : min (i : Int) (R : Int) = (m : Int) := by omega
      rw [hm] at HQi
      have hm8 : m ≤ 256 := by omega
      obtain ⟨lo, hlo⟩ : ∃ lo : Nat, i - R = lo := ⟨_, rfl⟩
      have HLo := Lib.hid hlo
      have hlo9 : lo ≤ 512 := by have := HN9.out; have := H2.out; omega
      rw [hlo] at HQi
      have HM8 := Lib.hid hm8
      have HLO9 := Lib.hid hlo9
      clear hi hlt hm hlo hm8 hlo9 hR0 hr9 HW1
      go_wp2_with fail
      go_loopw [8] (fun x wl => ∃ j : Nat, x = .int .i64 j ∧ j ≤ m ∧ Hid (Qu (fun k => qb ≤ k) wl qb R (lo : Int) ((ordL m).drop j)) ∧ Hid (Below qb w wl)) (fun x _ => m - (intOf x).toNat)
      case atStart => exact ⟨0, rfl, Nat.zero_le _, by simpa using HQi, HBi⟩
      case round =>
        obtain ⟨j, rfl, hj, HQj, HBj⟩ := hrel
        by_cases hlt : j < m
        · have hw8 : IntKind.u8.wrap ((j : Int) / 256) = (j : Int) / 256 := by have := HM8.out; rw [IntKind.wrap_u8]; omega
          have hlen : 0 < ((ordL m).drop j).length := by rw [List.length_drop, ordL_len]; omega
          have HT := Lib.hid (qtake_in HQj.out hlen)
          rw [ordL_get, cut_zero, List.drop_drop, Nat.add_zero] at HT
          have hd : decide ((j : Int) < (m : Int)) = true := decide_eq_true (by omega)
          clear hlen
          go_wp2_with fail
          refine HT.out.mono ?_
          rintro e w2 ⟨c2, rfl, hby, hq2, ht2, hs2⟩
          have HQ2 := Lib.hid hq2
          have hj8 : (j : Int) % 256 = j := by have := HM8.out; omega
          rw [hj8] at hby
          have HS := Lib.hid (same_is (A := some ⟨wr.heap.size, 0, none⟩) (A' := some ⟨w2.heap.size, 0, none⟩) (c := c2) (c' := 2) (la := 2) (lb := 2) (r := true) (zs := [(j : Int), (j : Int) / 256]) (ys := [(j : Int), (j : Int) / 256]) rfl rfl (by omega) (same_two _ _) (w2.alloc (.cells #[.int .u8 (j : Int), .int .u8 ((j : Int) / 256)] 5)) ((hby.has.tight.below ((Below.refl _ w2).alloc (Nat.le_refl _) _) (Nat.le_refl _)).tight) ((Has.fresh w2 #[.int .u8 (j : Int), .int .u8 ((j : Int) / 256)] 5 : Has _ _ _ (u8s [(j : Int), (j : Int) / 256])).tight))
          have hq3 := hq2.below ((Below.refl _ w2).alloc (Nat.le_refl _) (.cells #[.int .u8 (j : Int), .int .u8 ((j : Int) / 256)] 5))
          have HQ3 := Lib.hid hq3
          have hs := HBj.out.size
          have hsq := HQB.out
          have hb2 : Below qb w w2 := HBj.out.trans (ht2.below (by omega) (fun k hk hz => by have := hz.1; omega))
          have HB3 := Lib.hid (show Below qb w (w2.alloc (.cells #[.int .u8 (j : Int), .int .u8 ((j : Int) / 256)] 5)) from hb2.alloc (by omega) _)
          clear hby hq2 hq3 hs hsq hb2 ht2 hs2 hj8
          go_wp2_with fail
          refine HS.out.mono ?_
          rintro e w4 ⟨rfl, nq, rfl⟩
          go_wp2_with fail
          go_roundw
          case rel => exact ⟨j + 1, by go_num, by omega, HQ3.out.drewN _, below_drewN HB3.out _⟩
          case measure => simp [intOf]; omega
        · obtain rfl : j = m := by omega
          have HL := Lib.hid (qlen_any HQj.out)
          have HO := Lib.hid (qlost_any HQj.out)
          rw [List.length_drop, ordL_len, Nat.sub_self] at HL
          have hwr : wrap64 ((i : Int) - (R : Int)) = (i : Int) - (R : Int) := by have := HN9.out; have := H2.out; unfold wrap64; omega
          have hmx : max ((i : Int) - (R : Int)) 0 = (lo : Int) := by have := HLo.out; omega
          have hlo9 := HLO9.out
          have HPo := Lib.hid (qpush_out (A := some ⟨wr.heap.size, 0, none⟩) (n := 65537) (c := 65537) (w := wr.alloc (.cells csA 5)) (HQj.out.below ((Below.refl _ wr).alloc (Nat.le_refl _) _)) (by omega) (by omega) (Or.inr (by decide)))
          go_wp2_with fail
          refine HL.out.mono ?_
          rintro e w2 ⟨rfl, rfl⟩
          go_wp2_with fail
          refine HO.out.mono ?_
          rintro e w2 ⟨rfl, rfl⟩
          go_wp2_with fail
          refine HPo.out.mono ?_
          rintro e w2 ⟨rfl, hq2, ht2⟩
          have hs := HBj.out.size
          have hsq := HQB.out
          have h1 : Below qb w (wr.alloc (.cells csA 5)) := HBj.out.alloc (by omega) _
          have hz1 : qb ≤ (wr.alloc (.cells csA 5)).heap.size := by simp; omega
          have hq2' : Qu (fun k => qb ≤ k) w2 qb R ((lo : Int) + 1) ((ordL j).drop j) := hq2.mono (fun k _ hk => hk.elim id (fun h => by simp at h; omega))
          have hb2 : Below qb w w2 := h1.trans (ht2.below hz1 (fun k hk hz => by have := hz.1; omega))
          have hz2 : qb ≤ w2.heap.size := by have := hb2.size; omega
          have HO2 := Lib.hid (qlost_any hq2')
          have HPi := Lib.hid (qpush_in (n := 65536) (c := 65536) (w := w2.alloc (.cells csB 5)) (hq2'.below ((Below.refl _ w2).alloc (Nat.le_refl _) _)) (by rw [List.length_drop, ordL_len]; have := H1.out; omega) (HHB.out w2) HZl.out HBy.out)
          have HBc := Lib.hid (show Below qb w (w2.alloc (.cells csB 5)) from hb2.alloc hz2 _)
          have HZ3 := Lib.hid (show qb ≤ (w2.alloc (.cells csB 5)).heap.size by simp; omega)
          clear hs hsq h1 hz1 hq2' hb2 hz2 hq2 ht2 HPo
          go_wp2_with fail
          refine HO2.out.mono ?_
          rintro e w3 ⟨rfl, rfl⟩
          go_wp2_with fail
          refine HPi.out.mono ?_
          rintro e w4 ⟨rfl, hq4, ht4⟩
          have HB4 := Lib.hid (show Below qb w w4 from HBc.out.trans (ht4.below HZ3.out (fun k hk hz => by have := hz.1; have := HQB.out; have := HZ3.out; omega)))
          clear hq4 ht4
          go_wp2_with fail
          refine (wakes7_any _).mono ?_
          rintro e w6 ⟨rfl, hb6⟩
          have HB6 := Lib.hid hb6
          clear hb6
          go_wp2_with fail
          go_ret
          have hs := HB4.out.size
          exact ⟨rfl, by rw [HQB.out]; exact HB4.out.trans (HB6.out.mono (by have := HQB.out; omega))⟩
end Go.Proofs.Ytpopchigboacaaa
