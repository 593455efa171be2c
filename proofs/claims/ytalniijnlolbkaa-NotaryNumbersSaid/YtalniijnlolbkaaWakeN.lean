/- The document's example of seals. -/
import Derived.Test.YtalniijnlolbkaaNotary
import Derived.Lib.SlBytesConst
namespace Go.Proofs.Ytalniijnlolbkaa
open Go.RowKit Go.Maps

theorem has_a (w : World) : Has (w.alloc (.cells #[.int .u8 97] 5 (1, 2))) (w.heap.size + 1) (some ⟨w.heap.size, 0, none⟩) (u8s [97]) := fun j u hj => by
  refine ⟨_, rfl, Nat.lt_succ_self _, World.news_of_block (cs := #[.int .u8 97]) (t := 5) (fr := (1, 2)) ?_ j u hj⟩
  show (w.heap.push _)[w.heap.size]? = _
  simp
theorem conv_a (w : World) : (convert 33 33 (.slice (some ⟨w.heap.size, 0, none⟩) 1 1)).run Try.prog (w.alloc (.cells #[.int .u8 97] 5)) = .ok (.slice (some ⟨w.heap.size, 0, none⟩) 1 1) (w.alloc (.cells #[.int .u8 97] 5 (1, 2))) :=
  Lib.run_convert_bytes_const w 33 5 #[.int .u8 97] 1 1 Try.underlying33 Try.underlying5
theorem seal_first (d : Deed) : sealS [] d = 1 := rfl
theorem seal_first2 (d : Deed) : sealed [] d = [d] := rfl
theorem deed_ne (s : ByteArray) : ((1, s) : Deed) ≠ (2, s) := fun h => by injection h with h _; exact absurd h (by decide)
theorem seal_second (s : ByteArray) : sealS [(1, s)] (2, s) = 2 := by
  unfold sealS idx; rw [if_neg (deed_ne s)]; rfl
theorem seal_second2 (s : ByteArray) : sealed [(1, s)] (2, s) = [(1, s), (2, s)] := by
  rw [sealed_out]
  · rfl
  · intro h
    exact deed_ne s (List.mem_singleton.1 h).symm
theorem check_first (s : ByteArray) : checkS [(1, s), (2, s)] (1, s) 1 = true := by
  have h : ((1, s) : Deed) ∈ [((1, s) : Deed), (2, s)] := by simp
  unfold checkS
  rw [decide_eq_true h, findS_in h]
  simp [idx]
theorem check_second (s : ByteArray) : checkS [(1, s), (2, s)] (2, s) 1 = false := by
  have h : ((2, s) : Deed) ∈ [((1, s) : Deed), (2, s)] := by simp
  unfold checkS
  rw [decide_eq_true h, findS_in h]
  unfold idx
  rw [if_neg (deed_ne s)]
  simp [idx]
set_option maxHeartbeats 1000000 in
theorem wakesN_any (w : World) : Calls Try.prog 9 #[] w fun e w' => e = .returned (.bool true) ∧ Below w.heap.size w w' := by
  have hm : 1 ≤ maxLen := by unfold maxLen; omega
  have hcv := conv_a
  have hf1 : fit 1 := by unfold fit; decide
  have hf2 : fit 2 := by unfold fit; decide
  go_enter Try.func9, Try.ntmps9
  go_wp2_with fail
  refine (new_any _).mono ?_
  rintro e w1 ⟨nb, bm, rfl, hN, h1, h2, hb⟩
  have HB := Lib.hid hb
  have HN := Lib.hid hN
  clear hb hN
  go_wp2_with fail
  refine (seal_any (HN.out.below ((Below.refl _ _).alloc (Nat.le_refl _) _)) (Nat.zero_le _) hf1 (has_a w1) rfl hm).mono ?_
  rintro e w2 ⟨rfl, hN2, ht2⟩
  rw [seal_first]
  rw [seal_first2] at hN2
  have HB2 := Lib.hid ((HB.out.alloc HB.out.size (.cells #[.int .u8 97] 5 (1, 2))).trans (ht2.below (B := w.heap.size) (Nat.le_trans HB.out.size (by simp)) (fun k hk he => by omega)))
  have HN2 := Lib.hid hN2
  clear hN2 ht2
  go_wp2_with fail
  refine (seal_any (HN2.out.below ((Below.refl _ _).alloc (Nat.le_refl _) _)) (by decide) hf2 (has_a w2) rfl hm).mono ?_
  rintro e w3 ⟨rfl, hN3, ht3⟩
  rw [seal_second]
  rw [seal_second2] at hN3
  have HB3 := Lib.hid ((HB2.out.alloc HB2.out.size (.cells #[.int .u8 97] 5 (1, 2))).trans (ht3.below (B := w.heap.size) (Nat.le_trans HB2.out.size (by simp)) (fun k hk he => by omega)))
  have HN3 := Lib.hid hN3
  clear hN3 ht3
  go_wp2_with fail
  refine (check_any (HN3.out.below ((Below.refl _ _).alloc (Nat.le_refl _) _)) hf1 (has_a w3) rfl hm).mono ?_
  rintro e w4 ⟨rfl, m4, hw4⟩
  rw [check_first]
  have HB4 := Lib.hid (show Below w.heap.size w w4 by rw [hw4]; exact (HB3.out.alloc HB3.out.size (.cells #[.int .u8 97] 5 (1, 2))).trans ⟨rfl, rfl, rfl, Nat.le_refl _, fun _ _ => rfl⟩)
  have HN4 := Lib.hid (show Nt w4 nb bm _ by rw [hw4]; exact (HN3.out.below ((Below.refl _ _).alloc (Nat.le_refl _) _)).drewN m4)
  clear hw4
  go_wp2_with fail
  refine (check_any (HN4.out.below ((Below.refl _ _).alloc (Nat.le_refl _) _)) hf2 (has_a w4) rfl hm).mono ?_
  rintro e w5 ⟨rfl, m5, hw5⟩
  rw [check_second]
  have HB5 := Lib.hid (show Below w.heap.size w w5 by rw [hw5]; exact (HB4.out.alloc HB4.out.size (.cells #[.int .u8 97] 5 (1, 2))).trans ⟨rfl, rfl, rfl, Nat.le_refl _, fun _ _ => rfl⟩)
  clear hw5
  go_wp2_with fail
  go_ret
  exact ⟨rfl, HB5.out⟩
end Go.Proofs.Ytalniijnlolbkaa
