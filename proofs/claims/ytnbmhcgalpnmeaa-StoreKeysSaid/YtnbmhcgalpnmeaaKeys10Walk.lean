/- The walk of StoreKeys. -/
import Derived.Test.YtnbmhcgalpnmeaaStoreTwo
import Derived.Test.YtnbmhcgalpnmeaaOps10
namespace Go.Proofs.Ytnbmhcgalpnmeaa
open Go.RowKit Go.Maps

theorem storeS_like {V U : Kv} {kd p v : Int} (h : V p = U p) (h5 : kd ≠ 5) : (storeS V kd p v).1 = (storeS U kd p v).1 ∧ (storeS V kd p v).2 p = (storeS U kd p v).2 p := by
  have hv : V.val p = U.val p := by unfold Kv.val; rw [h]
  unfold storeS
  by_cases hm : mayOp p v = false
  · rw [if_pos hm, if_pos hm]; exact ⟨rfl, h⟩
  rw [if_neg hm, if_neg hm, if_neg h5, if_neg h5, hv]
  by_cases k1 : kd = 1
  · rw [if_pos k1, if_pos k1]; exact ⟨rfl, (Kv.put_same _ _ _).trans (Kv.put_same _ _ _).symm⟩
  rw [if_neg k1, if_neg k1]
  by_cases k2 : kd = 2
  · rw [if_pos k2, if_pos k2]; exact ⟨rfl, h⟩
  rw [if_neg k2, if_neg k2]
  by_cases k3 : kd = 3
  · rw [if_pos k3, if_pos k3]
    split
    · exact ⟨rfl, (Kv.put_same _ _ _).trans (Kv.put_same _ _ _).symm⟩
    · exact ⟨rfl, h⟩
  rw [if_neg k3, if_neg k3]
  by_cases k4 : kd = 4
  · rw [if_pos k4, if_pos k4]; exact ⟨rfl, (Kv.del_same _ _).trans (Kv.del_same _ _).symm⟩
  rw [if_neg k4, if_neg k4]
  exact ⟨rfl, h⟩
theorem storeS_far {V : Kv} {kd p v q : Int} (h : q ≠ p) : (storeS V kd p v).2 q = V q := by
  unfold storeS
  split
  · rfl
  split
  · exact Kv.put_other _ h _
  split
  · rfl
  split
  · split
    · exact Kv.put_other _ h _
    · rfl
  split
  · exact Kv.del_other _ h
  split <;> rfl
theorem storeS_sum (V : Kv) (p v q : Int) : (storeS V 5 p v).2 q = V q := by
  unfold storeS
  split <;> rfl
/-- Both stores have the same value for the key. -/
structure Ky (w : World) (sb bm tb tm : Nat) (k : Int) (i : Nat) (wr : World) : Prop where
  ex : ∃ N M V U, N ≤ i ∧ M ≤ i ∧ S2 w sb bm N V tb tm M U wr ∧ V k = U k
set_option maxHeartbeats 4000000 in
set_option maxRecDepth 100000 in
theorem storeKeys_walk (A : Option Addr) (c : Nat) (zs : List Oe) (key : Int) (w : World) (hl : IsOps w A zs c) (h0 : fit key) :
    Calls Try.prog 9 #[.slice A zs.length c, .int .i64 key] w fun e w' => e = .returned (.bool true) ∧ Below w.heap.size w w' := by
  have KA := Lib.hid (fun w => within_any key 6 (by omega) (by omega) (wf_i64 h0).1 (wf_i64 h0).2 w)
  obtain ⟨k, hk⟩ : ∃ k, key % 6 = k := ⟨_, rfl⟩
  have bk := kmod key 6 (by omega)
  rw [hk] at KA bk
  have HF := Lib.hid (kfit (k := k) (by omega))
  have HL := Lib.hid hl
  clear h0 hk bk hl
  go_enter Try.func9, Try.ntmps9
  go_wp2_with fail
  refine (sn_new w _ (Below.refl _ _)).mono ?_
  rintro e v1 ⟨sb, bm, rfl, h1, _, _, _⟩
  have H1 := Lib.hid h1
  clear h1
  go_wp2_with fail
  refine (S2.new H1.out).mono ?_
  rintro e v2 ⟨tb, tm, rfl, h2⟩
  have H2 := Lib.hid (show Ky w sb bm tb tm k 0 v2 from ⟨0, 0, _, _, Nat.le_refl _, Nat.le_refl _, h2, rfl⟩)
  clear h2
  go_wp2_with fail
  refine (KA.out _).mono ?_
  rintro e u1 ⟨rfl, rfl⟩
  go_wp2_with fail
  go_loopw [7] (fun y wr => ∃ i : Nat, y = .int .i64 i ∧ i ≤ 80 ∧ i ≤ zs.length ∧ Hid (Ky w sb bm tb tm k i wr)) (fun y _ => zs.length - (intOf y).toNat)
  case atStart => exact ⟨0, rfl, by omega, by omega, H2⟩
  case round =>
    obtain ⟨i, rfl, hi, hi2, HS⟩ := hrel
    obtain ⟨N, M, V, U, hN, hM, hS, hV⟩ := HS.out.ex
    have HS2 := Lib.hid hS
    have HV := Lib.hid hV
    clear HS hS hV
    by_cases hlt : i < zs.length ∧ i < 80
    · obtain ⟨hlt, h80⟩ := hlt
      obtain ⟨ad, rfl, hb, c0, c1, c2⟩ := ope_at (HL.out.has.below HS2.out.low (Nat.le_refl _)) hlt
      obtain ⟨r, hr⟩ : ∃ r, zs[i] = r := ⟨_, rfl⟩
      rw [hr] at c0 c1 c2
      obtain ⟨x, y, z⟩ := r
      simp only at c0 c1 c2
      by_cases hky : y = k
      · by_cases h5 : x = 5
        · subst h5
          subst hky
          go_wp2_with fail
          refine (HS2.out.left (by omega) _ _ _).mono ?_
          rintro e v3 ⟨rfl, h3, _⟩
          have HX := Lib.hid (show Ky w sb bm tb tm y (i + 1) v3 from ⟨N + 1, M, _, _, by omega, by omega, h3, (storeS_sum V y z y).trans HV.out⟩)
          obtain ⟨ad', ea, _, d0, d1, _⟩ := ope_at (HL.out.has.below h3.low (Nat.le_refl _)) hlt
          obtain rfl := Option.some.inj ea
          rw [hr] at d0 d1
          simp only at d0 d1
          clear ea h3 c0 c1 c2
          go_wp2_with fail
          go_roundw
          case rel => exact ⟨i + 1, by go_num, by omega, by omega, HX⟩
          case measure => simp [intOf]; omega
        · subst hky
          have hlike := storeS_like (kd := x) (p := y) (v := z) HV.out h5
          have HLk := Lib.hid hlike
          have h5b : (x != 5) = true := by simpa using h5
          clear hlike
          go_wp2_with fail
          refine (HS2.out.left (by omega) _ _ _).mono ?_
          rintro e v3 ⟨rfl, h3, _⟩
          have H3 := Lib.hid h3
          obtain ⟨ad', ea, _, d0, d1, d2⟩ := ope_at (HL.out.has.below h3.low (Nat.le_refl _)) hlt
          obtain rfl := Option.some.inj ea
          rw [hr] at d0 d1 d2
          simp only at d0 d1 d2
          obtain ⟨q, hq⟩ : ∃ q, (storeS V x y z).1 = q := ⟨_, rfl⟩
          have KR := Lib.hid (h3.right (by omega) x y z)
          rw [← HLk.out.1, hq] at KR
          rw [hq]
          clear ea h3 c0 c1 c2 hq
          go_wp2_with fail
          refine KR.out.mono ?_
          rintro e v4 ⟨rfl, h4, _⟩
          have HX := Lib.hid (show Ky w sb bm tb tm y (i + 1) v4 from ⟨N + 1, M + 1, _, _, by omega, by omega, h4, HLk.out.2⟩)
          clear h4
          go_wp2_with fail
          go_roundw
          case rel => exact ⟨i + 1, by go_num, by omega, by omega, HX⟩
          case measure => simp [intOf]; omega
      · have hkb : (y == k) = false := by simpa using hky
        go_wp2_with fail
        refine (HS2.out.left (by omega) _ _ _).mono ?_
        rintro e v3 ⟨rfl, h3, _⟩
        have HX := Lib.hid (show Ky w sb bm tb tm k (i + 1) v3 from ⟨N + 1, M, _, _, by omega, by omega, h3, (storeS_far (fun e => hky e.symm)).trans HV.out⟩)
        obtain ⟨ad', ea, _, d0, d1, _⟩ := ope_at (HL.out.has.below h3.low (Nat.le_refl _)) hlt
        obtain rfl := Option.some.inj ea
        rw [hr] at d0 d1
        simp only at d0 d1
        clear ea h3 c0 c1 c2
        go_wp2_with fail
        go_roundw
        case rel => exact ⟨i + 1, by go_num, by omega, by omega, HX⟩
        case measure => simp [intOf]; omega
    · have HE := Lib.hid (show Kv.val V k = Kv.val U k from by unfold Kv.val; rw [HV.out])
      have hstop : zs.length ≤ i ∨ (i < zs.length ∧ 80 ≤ i) := by omega
      clear hlt
      rcases hstop with hs | ⟨hs, hs2⟩
      all_goals
        go_wp2_with fail
        refine (HS2.out.s.get HF.out).mono ?_
        rintro e v3 ⟨rfl, rfl⟩
        go_wp2_with fail
        refine (HS2.out.t.get HF.out).mono ?_
        rintro e v3 ⟨rfl, rfl⟩
        rw [← HE.out, ← HV.out]
        go_wp2_with fail
        refine (wakes10_any _).mono ?_
        rintro e v8 ⟨rfl, hb⟩
        have H8 := Lib.hid (HS2.out.below hb)
        clear hb
        go_wp2_with fail
        go_ret
        exact ⟨rfl, H8.out.low⟩
end Go.Proofs.Ytnbmhcgalpnmeaa
