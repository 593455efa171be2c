/- The walk of StoreSums. -/
import Derived.Test.YtnbmhcgalpnmeaaStoreRow
namespace Go.Proofs.Ytnbmhcgalpnmeaa
open Go.RowKit Go.Maps

theorem Kv.sum_put {V : Kv} {k v : Int} (hk : 0 ≤ k ∧ k < 64) : (V.put k v).sum = V.sum - V.val k + v := by
  obtain ⟨n, rfl⟩ := Int.eq_ofNat_of_zero_le hk.1
  unfold Kv.sum
  rw [Kv.sumTo_put, if_pos (by omega)]
/-- While the row's values are added. -/
structure Sj (w : World) (sb bm N : Nat) (V : Kv) (A : Option Addr) (l : List (Int × Int)) (wr : World) : Prop where
  s : Sn w sb bm N V wr
  row : Has wr wr.heap.size A (pairCells l)
  far : ∀ ad, A = some ad → bm < ad.block
theorem Sj.turned {w wr w2 : World} {sb bm N M : Nat} {V U : Kv} {A : Option Addr} {l : List (Int × Int)} (h : Sj w sb bm N V A l wr) (hs : Sn w sb bm M U w2) (ht : Turn (fun k => k = bm) wr w2) : Sj w sb bm M U A l w2 :=
  ⟨hs, (ht.has h.row (fun ad e hz => by have := h.far ad e; omega)).tight, h.far⟩
theorem Sj.below {w wr w2 : World} {sb bm N : Nat} {V : Kv} {A : Option Addr} {l : List (Int × Int)} (h : Sj w sb bm N V A l wr) (hb : Below wr.heap.size wr w2) : Sj w sb bm N V A l w2 :=
  ⟨h.s.below hb, (h.row.below hb (Nat.le_refl _)).tight, h.far⟩
set_option maxHeartbeats 4000000 in
set_option maxRecDepth 100000 in
theorem storeSums_walk (A : Option Addr) (c : Nat) (zs : List Oe) (key val : Int) (w : World) (hl : IsOps w A zs c) (h0 : fit key) (h1 : fit val) :
    Calls Try.prog 7 #[.slice A zs.length c, .int .i64 key, .int .i64 val] w fun e w' => e = .returned (.bool true) ∧ Below w.heap.size w w' := by
  have KA := Lib.hid (fun w => within_any key 64 (by omega) (by omega) (wf_i64 h0).1 (wf_i64 h0).2 w)
  have KB := Lib.hid (fun w => within_any val 2000 (by omega) (by omega) (wf_i64 h1).1 (wf_i64 h1).2 w)
  obtain ⟨k, hk⟩ : ∃ k, key % 64 = k := ⟨_, rfl⟩
  obtain ⟨y, hy⟩ : ∃ y, val % 2000 = y := ⟨_, rfl⟩
  have bk := kmod key 64 (by omega)
  have by_ := kmod val 2000 (by omega)
  rw [hk] at KA bk
  rw [hy] at KB by_
  obtain ⟨v, hv⟩ : ∃ v, y - 1000 = v := ⟨_, rfl⟩
  have bv : -1000 ≤ v ∧ v < 1000 := by omega
  have wv : IntKind.i64.wrap (y - 1000) = v := hv ▸ IntWalk.i64_in _ ⟨by omega, by omega⟩
  have wv5 : IntKind.i64.wrap (v + 5) = v + 5 := IntWalk.i64_in _ ⟨by omega, by omega⟩
  have HK := Lib.hid bk
  have HF := Lib.hid (kfit bk)
  have HL := Lib.hid hl
  have HBv := Lib.hid bv
  clear h0 h1 hk hy bk by_ hl hv bv
  go_enter Try.func7, Try.ntmps7
  go_wp2_with fail
  refine (sn_new w _ (Below.refl _ _)).mono ?_
  rintro e v1 ⟨sb, bm, rfl, h1, _, _, _⟩
  have H1 := Lib.hid (show Ru w sb bm 0 v1 from ⟨0, _, Nat.le_refl _, h1⟩)
  clear h1
  go_wp2_with fail
  go_loopw [8] (fun y wr => ∃ i : Nat, y = .int .i64 i ∧ i ≤ 60 ∧ i ≤ zs.length ∧ Hid (Ru w sb bm i wr)) (fun y _ => zs.length - (intOf y).toNat)
  case atStart => exact ⟨0, rfl, by omega, by omega, H1⟩
  case round =>
    obtain ⟨i, rfl, hi, hi2, HS⟩ := hrel
    obtain ⟨N, V, hN, hS⟩ := HS.out.ex
    have HS2 := Lib.hid hS
    clear HS hS
    by_cases hlt : i < zs.length ∧ i < 60
    · obtain ⟨hlt, h60⟩ := hlt
      obtain ⟨ad, rfl, hb, c0, c1, c2⟩ := ope_at (HL.out.has.below HS2.out.low (Nat.le_refl _)) hlt
      obtain ⟨r, hr⟩ : ∃ r, zs[i] = r := ⟨_, rfl⟩
      rw [hr] at c0 c1 c2
      obtain ⟨x, y, z⟩ := r
      simp only at c0 c1 c2
      clear hr
      go_wp2_with fail
      refine (HS2.out.apply (by omega) _ _ _).mono ?_
      rintro e v3 ⟨rfl, h3, _⟩
      have HX := Lib.hid (show Ru w sb bm (i + 1) v3 from ⟨N + 1, _, by omega, h3⟩)
      clear h3
      go_wp2_with fail
      go_roundw
      case rel => exact ⟨i + 1, by go_num, by omega, by omega, HX⟩
      case measure => simp [intOf]; omega
    · have HNn := Lib.hid (show N ≤ 60 by omega)
      have hstop : zs.length ≤ i ∨ (i < zs.length ∧ 60 ≤ i) := by omega
      obtain ⟨l, HLl⟩ := AllIs.of HS2.out.st.ok
      have HLl := Lib.hid HLl
      clear hlt hN
      rcases hstop with hs | ⟨hs, hs2⟩
      all_goals
        go_wp2_with fail
        refine (HS2.out.all HLl.out.all).mono ?_
        rintro e v4 ⟨A2, c2, rfl, hrow, hfar, h4, _⟩
        have HJ := Lib.hid (show Sj w sb bm N V A2 l v4 from ⟨h4, hrow, hfar⟩)
        clear h4 hrow hfar
        go_wp2_with fail
        go_loopw [9, 38] (fun s y wr => ∃ j : Nat, y = .int .i64 j ∧ s = .int .i64 (psnd (l.take j)) ∧ j ≤ l.length ∧ wr = v4) (fun _ y _ => l.length - (intOf y).toNat)
        case atStart => exact ⟨0, rfl, rfl, by omega, by first | rfl | trivial⟩
        case round =>
          obtain ⟨j, rfl, rfl, hj, he⟩ := hrel
          obtain rfl : v4 = wr := he.symm
          clear he
          by_cases hlt : j < l.length
          · obtain ⟨ad, rfl, _, c0, c1⟩ := pair_at HJ.out.row hlt
            obtain ⟨p, hp⟩ : ∃ p, l[j] = p := ⟨_, rfl⟩
            rw [hp] at c0 c1
            obtain ⟨pk, pv⟩ := p
            simp only at c0 c1
            have hnx := psnd_next (show l[j]? = some (pk, pv) by rw [List.getElem?_eq_getElem hlt, hp])
            have hbn := (HLl.out.vals _ (hp ▸ List.getElem_mem hlt)).2
            have hac := psnd_in (fun p hp => (HLl.out.vals p hp).2) j hj
            have hln := HLl.out.len
            simp only at hbn hnx
            obtain ⟨S0, hS0⟩ : ∃ S0, psnd (l.take j) = S0 := ⟨_, rfl⟩
            rw [hS0] at hac hnx
            rw [hS0]
            have hwr : IntKind.i64.wrap (S0 + pv) = S0 + pv := IntWalk.i64_in _ ⟨by omega, by omega⟩
            have hw6 : wrap64 (S0 + pv) = S0 + pv := IntWalk.wrap64_in _ ⟨by omega, by omega⟩
            have HNx := Lib.hid hnx
            clear hp hnx hbn hac hS0
            go_wp2_with fail
            go_roundw
            case rel => exact ⟨j + 1, by go_num, by rw [HNx.out], by omega, by first | rfl | trivial⟩
            case measure => simp [intOf]; omega
          · obtain rfl : j = l.length := by omega
            have HE := Lib.hid (show psnd (l.take l.length) = V.sum by rw [List.take_length, HLl.out.sum])
            have hin := Kv.sumTo_in HS2.out.st.ok 64
            have hin : -(2147483648 * ((64 : Nat) : Int)) ≤ V.sum ∧ V.sum ≤ 2147483648 * ((64 : Nat) : Int) := hin
            have hvk := HS2.out.st.ok.val k
            have hbv := HBv.out
            obtain ⟨S, hS⟩ : ∃ S, V.sum = S := ⟨_, rfl⟩
            obtain ⟨u, hu⟩ : ∃ u, V.val k = u := ⟨_, rfl⟩
            have E1 := Lib.hid (show storeS V 5 0 0 = (S, V) from by rw [st_sum (by omega) (by omega), hS])
            have E2 := Lib.hid (show storeS V 2 k 0 = (u, V) from by rw [st_get HK.out (by omega), hu])
            have E3 := Lib.hid (show storeS V 1 k v = (u, V.put k v) from by rw [st_put HK.out (by omega), hu])
            have E4 := Lib.hid (show storeS (V.put k v) 3 k 5 = (v + 5, V.put k (v + 5)) from by rw [st_add HK.out (by omega) (by rw [Kv.val_put]; omega), Kv.val_put, Kv.put_put])
            have E5 := Lib.hid (show storeS (V.put k (v + 5)) 5 0 0 = (S - u + v + 5, V.put k (v + 5)) from by
              rw [st_sum (by omega) (by omega), Kv.sum_put HK.out, hS, hu]
              congr 1
              omega)
            have E6 := Lib.hid (show (V.put k (v + 5)).val k = v + 5 from Kv.val_put _ _ _)
            have E7 := Lib.hid (show (V.put k (v + 5) k).isSome = true from by rw [Kv.put_same]; rfl)
            rw [HE.out, hS]
            rw [hS] at hin
            rw [hu] at hvk
            have q1 : IntKind.i64.wrap (S - u) = S - u := IntWalk.i64_in _ ⟨by omega, by omega⟩
            have q2 : IntKind.i64.wrap (S - u + v) = S - u + v := IntWalk.i64_in _ ⟨by omega, by omega⟩
            have q3 : IntKind.i64.wrap (S - u + v + 5) = S - u + v + 5 := IntWalk.i64_in _ ⟨by omega, by omega⟩
            have HLe := Lib.hid (show l.length ≤ 9223372036854775806 by have := HLl.out.len; omega)
            clear hlt hj hin hvk hS hu hbv
            go_wp2_with fail
            refine (KA.out _).mono ?_
            rintro e u1 ⟨rfl, rfl⟩
            go_wp2_with fail
            refine (KB.out _).mono ?_
            rintro e u2 ⟨rfl, rfl⟩
            go_wp2_with fail
            refine (HJ.out.s.does (by have := HNn.out; omega) E1.out).mono ?_
            rintro e v5 ⟨rfl, h5, t5⟩
            have J5 := Lib.hid (HJ.out.turned h5 t5)
            clear h5 t5
            go_wp2_with fail
            refine (J5.out.s.does (by have := HNn.out; omega) E2.out).mono ?_
            rintro e v6 ⟨rfl, h6, t6⟩
            have J6 := Lib.hid (J5.out.turned h6 t6)
            clear h6 t6
            go_wp2_with fail
            refine (J6.out.s.all HLl.out.all).mono ?_
            rintro e v7 ⟨A7, c7, rfl, hrow7, _, h7, hb7⟩
            have J7 := Lib.hid (J6.out.below hb7)
            have HR7 := Lib.hid hrow7
            clear h7 hb7 hrow7
            have KS := Lib.hid (same_pairs A7 A2 c7 c2 l v7.heap.size v7 HLe.out HR7.out J7.out.row)
            go_wp2_with fail
            refine KS.out.mono ?_
            rintro e v8 ⟨rfl, nq, hv8⟩
            have J8 := Lib.hid (show Sn w sb bm (N + 1 + 1) V v8 from hv8 ▸ J7.out.s.drewN nq)
            clear hv8
            go_wp2_with fail
            refine (J8.out.does (by have := HNn.out; omega) E3.out).mono ?_
            rintro e v9 ⟨rfl, h9, _⟩
            have J9 := Lib.hid h9
            clear h9
            go_wp2_with fail
            refine (J9.out.does (by have := HNn.out; omega) E4.out).mono ?_
            rintro e v10 ⟨rfl, h10, _⟩
            have J10 := Lib.hid h10
            clear h10
            go_wp2_with fail
            refine (J10.out.get HF.out).mono ?_
            rintro e v11 ⟨rfl, rfl⟩
            rw [E6.out, E7.out]
            go_wp2_with fail
            refine (J10.out.does (by have := HNn.out; omega) E5.out).mono ?_
            rintro e v12 ⟨rfl, h12, _⟩
            have J12 := Lib.hid h12
            clear h12
            go_wp2_with fail
            refine (wakes10_any _).mono ?_
            rintro e v13 ⟨rfl, hb⟩
            have H13 := Lib.hid (J12.out.below hb)
            clear hb
            go_wp2_with fail
            go_ret
            exact ⟨rfl, H13.out.low⟩
end Go.Proofs.Ytnbmhcgalpnmeaa
