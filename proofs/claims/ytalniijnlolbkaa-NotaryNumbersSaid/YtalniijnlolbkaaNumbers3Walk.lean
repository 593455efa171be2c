/- The walk of NotaryNumbers: it returns true for any two ints. -/
import Derived.Test.YtalniijnlolbkaaWakeN
import Derived.Test.YtalniijnlolbkaaRefSeal
import Derived.Test.YtalniijnlolbkaaWithin
import Derived.Deep.DeepCutAuto
import Derived.Deep.RegionLawGrows
namespace Go.Proofs.Ytalniijnlolbkaa
open Go.RowKit Go.Maps

/-- The i-th deed of the law. -/
def numD (q i : Nat) : Deed := (((i % q : Nat) : Int), strOfNums [((i / q : Nat) : Int), (i : Int)])
def numL (q k : Nat) : List Deed := (List.range k).map (numD q)
theorem str_list (zs : List Int) : (strOfNums zs).data.toList = zs.map fun n => UInt8.ofNat n.toNat := by simp [strOfNums]
theorem u8_inj {a b : Nat} (ha : a < 256) (hb : b < 256) (h : UInt8.ofNat a = UInt8.ofNat b) : a = b := by
  have := congrArg UInt8.toNat h
  simp [UInt8.toNat_ofNat'] at this
  omega
theorem numD_inj {q i j : Nat} (hi : i < 256) (hj : j < 256) (h : numD q i = numD q j) : i = j := by
  have h1 := congrArg (fun d : Deed => d.2.data.toList) h
  simp only [numD, str_list, List.map_cons, List.map_nil, List.cons.injEq] at h1
  exact u8_inj hi hj (by simpa using h1.2.1)
theorem has_cells {w : World} {B : Nat} {ad : Addr} {xs : List Value} (h : Has w B (some ad) xs) : ∀ j u, xs[j]? = some u → w.cell? (ad.add j) = some u := fun j u hj => by
  obtain ⟨_, he, _, hc⟩ := h j u hj
  cases he
  exact hc
theorem has_cells1 {w : World} {B : Nat} {ad : Addr} {xs : List Value} (h : Has w B (some ad) xs) : ∀ b, some ad = some b → ∀ j u, xs[j]? = some u → w.cell? (b.add j) = some u := fun b hb => by
  cases hb
  exact has_cells h
theorem info_byte : (Try.prog.info? 5).map (fun i => (i.zero, i.size, i.bytes)) = some (some (.int .u8 0), 1, 1) := by kernel_rfl
theorem numL_get {q k i : Nat} (h : i < k) : (numL q k)[i]? = some (numD q i) := by simp [numL, h]
theorem numL_len (q k : Nat) : (numL q k).length = k := by simp [numL]
theorem numL_in {q k i : Nat} (h : i < k) : numD q i ∈ numL q k := List.mem_of_getElem? (numL_get h)
theorem numL_not {q k : Nat} (h : k < 256) : numD q k ∉ numL q k := by
  intro hm
  obtain ⟨i, hi, he⟩ := List.mem_map.1 hm
  have hi := List.mem_range.1 hi
  have := numD_inj (by omega) h he
  omega
theorem numL_next {q k : Nat} (h : k < 256) : sealed (numL q k) (numD q k) = numL q (k + 1) := by
  rw [sealed_out (numL_not h)]; simp [numL, List.range_succ]
theorem numL_new {q k : Nat} (h : k < 256) : sealS (numL q k) (numD q k) = (k : Int) + 1 := by rw [sealS_out (numL_not h), numL_len]
theorem numL_nodup {q k : Nat} (h : k ≤ 256) : (numL q k).Nodup := by
  unfold numL
  rw [List.nodup_iff_pairwise_ne, List.pairwise_map]
  refine List.Pairwise.imp_of_mem (R := (· ≠ ·)) ?_ (List.nodup_iff_pairwise_ne.1 List.nodup_range)
  intro a b ha hb hne he
  exact hne (numD_inj (by have := List.mem_range.1 ha; omega) (by have := List.mem_range.1 hb; omega) he)
theorem numL_idx {q k i : Nat} (h : i < k) (hk : k ≤ 256) : idx (numL q k) (numD q i) = i := idx_at (numL_nodup hk) (numL_get h)
theorem numL_long {q k : Nat} {p : Int} {a b c : Int} : (p, strOfNums [a, b, c]) ∉ numL q k := by
  intro hm
  obtain ⟨i, _, he⟩ := List.mem_map.1 hm
  have h1 := congrArg (fun d : Deed => d.2.size) he
  simp [numD, str_size] at h1
theorem numD_is {q i : Nat} {p a : Int} (hp : p = ((i % q : Nat) : Int)) (ha : a = ((i / q : Nat) : Int)) : ((p, strOfNums [a, (i : Int)]) : Deed) = numD q i := by rw [hp, ha]; rfl

set_option maxHeartbeats 2000000 in
set_option maxRecDepth 100000 in
theorem notaryNumbers_walk (a0 a1 : Int) (w : World) (w0 : (Lit.int .i64 a0).wf = true) (w1 : (Lit.int .i64 a1).wf = true) :
    Calls Try.prog 6 #[.int .i64 a0, .int .i64 a1] w fun e w' => e = .returned (.bool true) ∧ Below w.heap.size w w' := by
  obtain ⟨b0, b1⟩ := wf_i64 w0
  obtain ⟨b2, b3⟩ := wf_i64 w1
  obtain ⟨n, hn⟩ : ∃ n : Nat, a0 % 60 = n := ⟨(a0 % 60).toNat, by omega⟩
  obtain ⟨q, hq⟩ : ∃ q : Nat, a1 % 5 = q := ⟨(a1 % 5).toNat, by omega⟩
  have hn1 : n < 60 := by omega
  have hq1 : q < 5 := by omega
  have HW0 := Lib.hid (fun w => within_any a0 60 (by omega) (by omega) b0 b1 w)
  have HW1 := Lib.hid (fun w => within_any a1 5 (by omega) (by omega) b2 b3 w)
  rw [hn] at HW0
  rw [hq] at HW1
  have hm2 : 2 ≤ maxLen := by unfold maxLen; omega
  have hm3 : 3 ≤ maxLen := by unfold maxLen; omega
  clear hn hq w0 w1
  go_enter Try.func6, Try.ntmps6
  go_wp2_with fail
  refine (new_any _).mono ?_
  rintro e w1 ⟨nb, bm, rfl, hN, h1, h2, hb⟩
  have HB := Lib.hid hb
  have HN := Lib.hid hN
  clear hb hN
  go_wp2_with fail
  refine (HW0.out _).mono ?_
  rintro e wv ⟨rfl, rfl⟩
  go_wp2_with fail
  refine (HW1.out _).mono ?_
  rintro e wv ⟨rfl, rfl⟩
  go_wp2_with fail
  go_loopw [6] (fun x wr => ∃ k : Nat, x = .int .i64 k ∧ k ≤ n ∧ Nt wr nb bm (numL (q + 1) k) ∧ Below w.heap.size w wr) (fun x _ => n - (intOf x).toNat)
  case atStart => exact ⟨0, rfl, Nat.zero_le _, HN.out, HB.out⟩
  case round =>
    obtain ⟨k, rfl, hk, hN, hb⟩ := hrel
    have HN := Lib.hid hN
    have HB := Lib.hid hb
    clear hN hb
    by_cases hlt : k < n
    · obtain ⟨d, hd⟩ : ∃ d : Nat, k / (q + 1) = d := ⟨_, rfl⟩
      obtain ⟨r, hr⟩ : ∃ r : Nat, k % (q + 1) = r := ⟨_, rfl⟩
      have hd1 : d < 60 := by rw [← hd]; exact Nat.lt_of_le_of_lt (Nat.div_le_self _ _) (by omega)
      have hr1 : r < 60 := by rw [← hr]; exact Nat.lt_of_le_of_lt (Nat.mod_le _ _) (by omega)
      have HE := Lib.hid (numD_is (q := q + 1) (i := k) (p := (r : Int)) (a := (d : Int)) (by rw [hr]) (by rw [hd]))
      have hd2 : (k : Int) / (1 + (q : Int)) = (d : Int) := by rw [← hd, Int.natCast_ediv, show ((q + 1 : Nat) : Int) = 1 + (q : Int) by omega]
      have hr2 : (k : Int) % (1 + (q : Int)) = (r : Int) := by rw [← hr, Int.natCast_emod, show ((q + 1 : Nat) : Int) = 1 + (q : Int) by omega]
      clear hd hr
      go_wp2_with fail
      refine (seal_any (HN.out.below ((Below.refl _ _).alloc (Nat.le_refl _) _)) (by rw [numL_len]; omega) (WalkArith.wf_i64 (by omega)) (show Has _ _ _ (u8s [(d : Int), (k : Int)]) from Has.fresh wr #[.int .u8 d, .int .u8 k] 5) rfl hm2).mono ?_
      rintro e w2 ⟨rfl, hN2, ht2⟩
      rw [HE.out, numL_new (by omega)]
      rw [HE.out, numL_next (by omega)] at hN2
      have HN2 := Lib.hid hN2
      have HB2 := Lib.hid ((HB.out.alloc HB.out.size (.cells #[.int .u8 d, .int .u8 k] 5)).trans (ht2.below (B := w.heap.size) (Nat.le_trans HB.out.size (by simp)) (fun k hk he => by omega)))
      clear hN2 ht2 hd2 hr2
      go_wp2_with fail
      refine (len_any HN2.out).mono ?_
      rintro e w3 ⟨rfl, rfl⟩
      rw [numL_len]
      go_wp2_with fail
      go_roundw
      case rel => exact ⟨k + 1, by go_num, by omega, HN2.out, HB2.out⟩
      case measure => simp [intOf]; omega
    · obtain rfl : k = n := by omega
      clear hlt
      go_wp2_with fail
      go_loopw [8] (fun x wx => ∃ i : Nat, x = .int .i64 i ∧ i ≤ k ∧ Nt wx nb bm (numL (q + 1) k) ∧ Below w.heap.size w wx) (fun x _ => k - (intOf x).toNat)
      case atStart => exact ⟨0, rfl, Nat.zero_le _, HN.out, HB.out⟩
      case round =>
        obtain ⟨i, rfl, hi, hN, hb⟩ := hrel
        have HN := Lib.hid hN
        have HB := Lib.hid hb
        clear hN hb
        by_cases hlt : i < k
        · obtain ⟨d, hd⟩ : ∃ d : Nat, i / (q + 1) = d := ⟨_, rfl⟩
          obtain ⟨r, hr⟩ : ∃ r : Nat, i % (q + 1) = r := ⟨_, rfl⟩
          have hd1 : d < 60 := by rw [← hd]; exact Nat.lt_of_le_of_lt (Nat.div_le_self _ _) (by omega)
          have hr1 : r < 60 := by rw [← hr]; exact Nat.lt_of_le_of_lt (Nat.mod_le _ _) (by omega)
          have HE := Lib.hid (numD_is (q := q + 1) (i := i) (p := (r : Int)) (a := (d : Int)) (by rw [hr]) (by rw [hd]))
          have hd2 : (i : Int) / (1 + (q : Int)) = (d : Int) := by rw [← hd, Int.natCast_ediv, show ((q + 1 : Nat) : Int) = 1 + (q : Int) by omega]
          have hr2 : (i : Int) % (1 + (q : Int)) = (r : Int) := by rw [← hr, Int.natCast_emod, show ((q + 1 : Nat) : Int) = 1 + (q : Int) by omega]
          have hin : numD (q + 1) i ∈ numL (q + 1) k := numL_in hlt
          have hix : idx (numL (q + 1) k) (numD (q + 1) i) = i := numL_idx hlt (by omega)
          have HF := Lib.hid (show findS (numL (q + 1) k) (numD (q + 1) i) = (i : Int) + 1 by rw [findS_in hin, hix])
          have HIN := Lib.hid hin
          have HSE := Lib.hid (show sealS (numL (q + 1) k) (numD (q + 1) i) = (i : Int) + 1 by unfold sealS; rw [hix])
          clear hd hr hin hix
          go_wp2_with fail
          have HH := Lib.hid (show Has (wr.alloc (.cells #[.int .u8 d, .int .u8 i] 5)) (wr.heap.size + 1) (some ⟨wr.heap.size, 0, none⟩) (u8s [(d : Int), (i : Int)]) from Has.fresh wr #[.int .u8 d, .int .u8 i] 5)
          refine (find_any (HN.out.below ((Below.refl _ _).alloc (Nat.le_refl _) _)) (WalkArith.wf_i64 (by omega)) HH.out rfl hm2).mono ?_
          rintro e w2 ⟨rfl, m, hw2⟩
          rw [HE.out, HF.out, decide_eq_true HIN.out]
          have hn0 := HN.out.lt
          have HN2 := Lib.hid (show Nt w2 nb bm (numL (q + 1) k) by rw [hw2]; exact (HN.out.below ((Below.refl _ _).alloc (Nat.le_refl _) _)).drewN m)
          have HB2 := Lib.hid (show Below w.heap.size w w2 by rw [hw2]; exact (HB.out.alloc HB.out.size (.cells #[.int .u8 d, .int .u8 i] 5)).trans ⟨rfl, rfl, rfl, Nat.le_refl _, fun _ _ => rfl⟩)
          have HO2 := Lib.hid (show Has w2 (wr.heap.size + 1) (some ⟨wr.heap.size, 0, none⟩) (u8s [(d : Int), (i : Int)]) by rw [hw2]; exact HH.out.drewN m)
          have HS2 := Lib.hid (show wr.heap.size + 1 ≤ w2.heap.size by rw [hw2]; simp)
          obtain ⟨gb, hgb⟩ : ∃ gb, wr.heap.size = gb := ⟨_, rfl⟩
          have HGW := Lib.hid (show w.heap.size ≤ gb by rw [← hgb]; exact HB.out.size)
          rw [hgb] at hn0 HO2 HS2 ⊢
          obtain ⟨hn0, hn3⟩ := hn0
          clear hw2 hgb HH HN HB hd2
          have HFN := Lib.hid (fun (w' : World) (h : Nt w' nb bm (numL (q + 1) k)) (A : Option Addr) (c B : Nat) (hh : Has w' B A (u8s [(d : Int), (i : Int), 1])) =>
            (find_any h (p := (r : Int) + 1) (WalkArith.wf_i64 (by omega)) hh rfl hm3 (c := c)).mono (R' := fun e w'' => e = .returned (.tuple #[.int .i64 0, .bool false]) ∧ ∃ m, w'' = w'.drewN m) (fun e w'' he => by
              rw [findS_out numL_long, decide_eq_false numL_long] at he
              exact he))
          go_upto_region 16 with fail
          go_cut [12, 13] from 50 to 115 (fun s12 s13 wx => s13 = .bool false ∧ Nt wx nb bm (numL (q + 1) k) ∧ Below w.heap.size w wx ∧ Has wx wx.heap.size (some ⟨gb, 0, none⟩) (u8s [(d : Int), (i : Int)]))
          case first =>
            obtain ⟨i0, hi, hx0, hx1, hx2⟩ := info_parts info_byte
            have hb0 : Below w2.heap.size w2 (w2.drew.alloc (.cells #[.int .u8 1] 5)) := ((Below.refl _ w2).drew).alloc (Nat.le_refl _) _
            have hH3 : Has (w2.drew.alloc (.cells #[.int .u8 1] 5)) (gb + 1) (some ⟨gb, 0, none⟩) (u8s [(d : Int), (i : Int)]) := HO2.out.below hb0 HS2.out
            have hN3 : Has (w2.drew.alloc (.cells #[.int .u8 1] 5)) (w2.heap.size + 1) (some ⟨w2.heap.size, 0, none⟩) [.int .u8 1] := Has.fresh w2.drew #[.int .u8 1] 5
            have HNt3 := Lib.hid (HN2.out.below hb0)
            have HBl3 := Lib.hid (HB2.out.trans (hb0.mono HB2.out.size))
            have hone3 : ∀ u ∈ [Value.int .u8 1], u.oneCell' = true := by simp; rfl
            have hq0 : ¬ (1 + (q : Int) = 0) := by omega
            have ht0 : (i : Int).tmod (1 + (q : Int)) = (r : Int) := by rw [Int.tmod_eq_emod_of_nonneg (by omega)]; exact hr2
            have hwr : IntKind.i64.wrap ((r : Int) + 1) = (r : Int) + 1 := IntWalk.i64_in _ ⟨by omega, by omega⟩
            clear hb0
            go_region_law (first
              | (refine step_append_grows (w := w2.drew.alloc (.cells #[.int .u8 1] 5)) rfl (.tmp 77) (.tmp 78) 33 rfl 5 i0 (.int .u8 0) 1 1 Try.underlying33 hi hx0 hx1 hx2 rfl (by decide) (some ⟨gb, 0, none⟩) 2 2 (u8s [(d : Int), (i : Int)]) rfl (fun h => nomatch h) rfl (has_cells1 hH3) ⟨w2.heap.size, 0, none⟩ 1 1 [.int .u8 1] rfl rfl (has_cells hN3) hone3 (by decide) hm3 (by decide) ?_; intro vb w5 hob hgb; obtain ⟨Ab, cb, rfl, _, _⟩ := own_slice hob; have hNt5 : Nt w5 nb bm (numL (q + 1) k) := HNt3.out.below (below_grown0 hgb); have hBl5 := HBl3.out.trans ((below_grown0 hgb).mono HBl3.out.size); have hH5 : Has w5 (gb + 1) (some ⟨gb, 0, none⟩) (u8s [(d : Int), (i : Int)]) := hH3.below (below_grown0 hgb) (by have := HS2.out; simp; omega); have hX5 : Has w5 w5.heap.size Ab (u8s [(d : Int), (i : Int), 1]) := Has.own hob)
              | (go_simp; go_at_call 16; refine (HFN.out w5 hNt5 Ab cb _ hX5).mono ?_; rintro e w6 ⟨rfl, m6, rfl⟩))
            all_goals
              have HN6 := Lib.hid (hNt5.drewN m6)
              have HB6 := Lib.hid (show Below w.heap.size w (w5.drewN m6) from hBl5.trans ⟨rfl, rfl, rfl, Nat.le_refl _, fun _ _ => rfl⟩)
              have HX6 := Lib.hid (show Has (w5.drewN m6) (w5.drewN m6).heap.size (some ⟨gb, 0, none⟩) (u8s [(d : Int), (i : Int)]) from hH5.more (by
                have g1 := hgb.size
                have g2 : (w2.drew.alloc (.cells #[.int .u8 1] 5)).heap.size = w2.heap.size + 1 := by simp
                have g3 := HS2.out
                show gb + 1 ≤ w5.heap.size
                omega))
              go_wp2_with fail
              go_meet
              exact ⟨rfl, HN6.out, HB6.out, HX6.out⟩
          case rest =>
            clear HO2 HS2 HN2 HB2
            obtain ⟨rfl, hN, hB, hH⟩ := hcut
            have HN := Lib.hid hN
            have HB := Lib.hid hB
            have HH := Lib.hid hH
            have hnb : ∀ k, k < w.heap.size → ¬ k = bm := fun k hk he => by omega
            clear hN hB hH
            go_wp2_with fail
            refine (seal_any HN.out (by rw [numL_len]; omega) (WalkArith.wf_i64 (by omega)) HH.out rfl hm2).mono ?_
            rintro e w3 ⟨rfl, hN3, ht3⟩
            rw [HE.out, HSE.out]
            rw [HE.out, sealed_in HIN.out] at hN3
            have HN3 := Lib.hid hN3
            have HB3 := Lib.hid (HB.out.trans (ht3.below HB.out.size hnb))
            have HH3 := Lib.hid (ht3.has HH.out (fun ad he hb => by cases he; exact absurd (show gb = bm from hb) (by omega)))
            clear hN3 ht3
            go_wp2_with fail
            refine (check_any HN3.out (k := (i : Int) + 1) (WalkArith.wf_i64 (by omega)) HH3.out rfl hm2).mono ?_
            rintro e w4 ⟨rfl, m4, hw4⟩
            rw [HE.out, show checkS (numL (q + 1) k) (numD (q + 1) i) ((i : Int) + 1) = true by unfold checkS; rw [decide_eq_true HIN.out, HF.out]; simp]
            have HN4 := Lib.hid (show Nt w4 nb bm (numL (q + 1) k) by rw [hw4]; exact HN3.out.drewN m4)
            have HB4 := Lib.hid (show Below w.heap.size w w4 by rw [hw4]; exact HB3.out.trans ⟨rfl, rfl, rfl, Nat.le_refl _, fun _ _ => rfl⟩)
            clear hw4
            go_wp2_with fail
            go_roundw
            case rel => exact ⟨i + 1, by go_num, by omega, HN4.out, HB4.out⟩
            case measure => simp [intOf]; omega
        · obtain rfl : i = k := by omega
          clear hlt
          go_wp2_with fail
          refine (len_any HN.out).mono ?_
          rintro e w3 ⟨rfl, rfl⟩
          rw [numL_len]
          go_wp2_with fail
          refine (wakesN_any _).mono ?_
          rintro e w4 ⟨rfl, hb4⟩
          go_wp2_with fail
          go_ret
          exact ⟨rfl, HB.out.trans (hb4.mono HB.out.size)⟩
end Go.Proofs.Ytalniijnlolbkaa
