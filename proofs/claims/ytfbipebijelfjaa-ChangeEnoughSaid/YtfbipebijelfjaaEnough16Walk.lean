/- The walk of ChangeEnough: it returns true for any int and any list of acts. -/
import Derived.Test.YtfbipebijelfjaaChgOne
import Derived.Test.YtfbipebijelfjaaActs16
import Derived.Test.YtfbipebijelfjaaWithin
import Derived.Test.YtfbipebijelfjaaRefRising
import Derived.Deep.DeepCutAuto
namespace Go.Proofs.Ytfbipebijelfjaa
open Go.RowKit
set_option linter.unusedSimpArgs false

theorem risesF_fC : ∀ (L : List Cw) (k : Nat) (w last N : Int), last < k → (k : Int) + L.length ≤ N → risesF N last (fC k L w) = true
  | [], _, _, _, _, _, _ => rfl
  | x :: L, k, w, last, N, h, hN => by
    rw [fC_cons]
    rw [List.length_cons] at hN
    split
    · show (decide (last < (k : Int) ∧ (k : Int) < N) && risesF N (k : Int) (fC (k + 1) L w)) = true
      rw [risesF_fC L (k + 1) w (k : Int) N (by omega) (by omega), decide_eq_true ⟨h, by omega⟩]
      rfl
    · rw [List.nil_append]
      exact risesF_fC L (k + 1) w last N (by omega) (by omega)
theorem risesF_take {N : Int} : ∀ (l : List Vt) (last : Int) (q : Nat), risesF N last l = true → risesF N last (l.take q) = true
  | [], _, q, _ => by cases q <;> rfl
  | v :: l, last, 0, _ => rfl
  | v :: l, last, q + 1, h => by
    rw [List.take_succ_cons]
    have h2 : (decide (last < v.nd ∧ v.nd < N) && risesF N v.nd l) = true := h
    rw [Bool.and_eq_true] at h2
    show (decide (last < v.nd ∧ v.nd < N) && risesF N v.nd (l.take q)) = true
    rw [h2.1, risesF_take l v.nd q h2.2]
    rfl
theorem en_rising {L : List Cw} {w f : Int} {q : Nat} (h1 : 1 ≤ f) (h4 : f ≤ 4) (hn : (L.length : Int) = 3 * f + 1) (hq : (q : Int) = 2 * f + 1) : risingS (vtsC (enC L w q)) f = (enC L w q).isSome := by
  cases he : enC L w q with
  | none =>
    rw [show vtsC none = [] from rfl, rising_out (by right; right; simp; omega)]
    rfl
  | some v =>
    obtain ⟨e1, e2, e3⟩ := enC_is he
    show risingS v f = true
    rw [rising_in h1 h4 (by omega), e2]
    exact risesF_take _ _ _ (risesF_fC L 0 w _ _ (by omega) (by omega))
/-- How many views below j have enough votes. -/
def nEn (L : List Cw) (q : Nat) : Nat → Nat
  | 0 => 0
  | j + 1 => nEn L q j + if (enC L (j : Int) q).isSome then 1 else 0
theorem nEn_le {L : List Cw} {q : Nat} (hq : L.length < 2 * q) : ∀ j, (nEn L q j = 0 ∨ nEn L q j = 1 ∧ ∃ i : Nat, i < j ∧ (enC L (i : Int) q).isSome = true)
  | 0 => Or.inl rfl
  | j + 1 => by
    show nEn L q j + _ = 0 ∨ nEn L q j + _ = 1 ∧ _
    have ih := nEn_le hq j
    cases he : enC L (j : Int) q with
    | none =>
      rcases ih with h | ⟨h, i, hi, hs⟩
      · left; rw [h]; rfl
      · right; exact ⟨by rw [h]; rfl, i, by omega, hs⟩
    | some v =>
      rcases ih with h | ⟨h, i, hi, hs⟩
      · right; exact ⟨by rw [h]; rfl, j, by omega, by rw [he]; rfl⟩
      · obtain ⟨u, hu⟩ := Option.isSome_iff_exists.1 hs
        have := enC_one hq hu he
        omega
set_option maxRecDepth 100000 in
set_option maxHeartbeats 4000000 in
theorem changeEnough_walk (a0 : Int) (A : Option Addr) (c1 : Nat) (l : List Ac) (w : World) (w0 : (Lit.int .i64 a0).wf = true) (w1 : IsActs w A l c1) :
    Calls Try.prog 5 #[.int .i64 a0, .slice A l.length c1] w fun e w' => e = .returned (.bool true) ∧ Below w.heap.size w w' := by
  obtain ⟨b0, b1⟩ := wf_i64 w0
  have HW4 := Lib.hid (fun w => within_any a0 4 (by omega) (by omega) b0 b1 w)
  have hf1 : 0 ≤ a0 % 4 ∧ a0 % 4 < 4 := ⟨Int.emod_nonneg _ (by omega), Int.emod_lt_of_pos _ (by omega)⟩
  obtain ⟨p, hp⟩ : ∃ p : Nat, a0 % 4 = p := ⟨(a0 % 4).toNat, by omega⟩
  rw [hp] at HW4 hf1
  obtain ⟨q, hq⟩ : ∃ q : Nat, (q : Int) = 2 * (1 + (p : Int)) + 1 := ⟨2 * p + 3, by omega⟩
  obtain ⟨n, hn⟩ : ∃ n : Nat, (n : Int) = 3 * (1 + (p : Int)) + 1 := ⟨3 * p + 4, by omega⟩
  have hn13 : n ≤ 13 := by omega
  have hn1 : 1 ≤ n := by omega
  have hn2 : n < 2 * q := by omega
  have HN := Lib.hid (fun (w : World) => (show Calls Try.prog 9 #[.int .i64 (1 + p)] w fun e w' => e = .returned (.int .i64 (n : Int)) ∧ w = w' from by
    have := rnodes_any (1 + p) w
    rwa [nodesS_in (by omega) (by omega), ← hn] at this))
  have HWn := Lib.hid (fun (x : Int) (hx : fit x) (w : World) => within_any x n (by omega) (by omega) (wf_i64 hx).1 (wf_i64 hx).2 w)
  have HW3 := Lib.hid (fun (x : Int) (hx : fit x) (w : World) => within_any x 3 (by omega) (by omega) (wf_i64 hx).1 (wf_i64 hx).2 w)
  have HNew := Lib.hid (fun w => rv_new (f := 1 + (p : Int)) (n := n) (by omega) (by omega) hn w w (Below.refl _ _))
  have HRi := Lib.hid (fun (L : List Cw) (hl : L.length = n) (b : Int) => en_rising (L := L) (w := b) (f := 1 + (p : Int)) (q := q) (by omega) (by omega) (by omega) hq)
  have HQq := Lib.hid hq
  have HA := Lib.hid w1.has
  have HF := Lib.hid w1.came
  obtain ⟨m, hm⟩ : ∃ m, l.length = m := ⟨_, rfl⟩
  rw [hm]
  have HM := Lib.hid hm
  have HMx := Lib.hid (show m ≤ maxLen by rw [← hm]; exact Nat.le_trans w1.le w1.most)
  have HN13 := Lib.hid (And.intro hn13 hn2)
  clear w0 w1 b0 b1 hp hn hn1 hm hn13 hn2 hq
  go_enter Try.func5, Try.ntmps5
  go_wp2_with fail
  refine (HW4.out _).mono ?_
  rintro e wa ⟨rfl, rfl⟩
  go_wp2_with fail
  refine (HNew.out _).mono ?_
  rintro e w1 ⟨vb, g, c, rfl, hR, -, -, -⟩
  have HR := Lib.hid hR
  have HLn := Lib.hid (show (List.replicate n (none : Cw)).length = n from List.length_replicate)
  clear hR
  go_wp2_with fail
  go_loopw [7] (fun x wr => ∃ (k : Nat) (L : List Cw), x = .int .i64 k ∧ k ≤ m ∧ k ≤ 100 ∧ Hid (L.length = n) ∧ Hid (Rv w vb g c (1 + (p : Int)) L wr)) (fun x _ => m - (intOf x).toNat)
  case atStart => exact ⟨0, _, rfl, Nat.zero_le _, Nat.zero_le _, HLn, HR⟩
  case round =>
    obtain ⟨k, L, rfl, hk, hk2, HLn, HR⟩ := hrel
    by_cases hlt : k < m ∧ k < 100
    · obtain ⟨hlt1, hlt2⟩ := hlt
      obtain ⟨ad, rfl, hab, -, h1, h2, h3⟩ := act_at (HR.out.has HA.out) (show k < l.length by rw [HM.out]; exact hlt1)
      obtain ⟨⟨dd, nd, vw, sg⟩, hx⟩ : ∃ x, l[k]'(by rw [HM.out]; exact hlt1) = x := ⟨_, rfl⟩
      have HFx := Lib.hid (show Ac.Came w ⟨dd, nd, vw, sg⟩ from hx ▸ HF.out _ (List.getElem_mem _))
      rw [hx] at h1 h2 h3
      simp only at h1 h2 h3
      have HCells := Lib.hid (fun (w' : World) (hb : w'.heap[(ad.add (k * 4)).block]? = wr.heap[(ad.add (k * 4)).block]?) => show (w'.cell? ⟨(ad.add (k * 4)).block, (ad.add (k * 4)).off + 1, none⟩ = some (.int .i64 nd) ∧ w'.cell? ⟨(ad.add (k * 4)).block, (ad.add (k * 4)).off + 2, none⟩ = some (.int .i64 vw) ∧ w'.cell? ⟨(ad.add (k * 4)).block, (ad.add (k * 4)).off + 3, none⟩ = some (.int .i64 sg)) from ⟨(World.cell?_of_block (a := ⟨(ad.add (k * 4)).block, (ad.add (k * 4)).off + 1, none⟩) hb).trans h1, (World.cell?_of_block (a := ⟨(ad.add (k * 4)).block, (ad.add (k * 4)).off + 2, none⟩) hb).trans h2, (World.cell?_of_block (a := ⟨(ad.add (k * 4)).block, (ad.add (k * 4)).off + 3, none⟩) hb).trans h3⟩)
      have HNE := Lib.hid (show (ad.add (k * 4)).block < wr.heap.size ∧ (ad.add (k * 4)).block ≠ g from by
        rw [addr_block]
        have := HR.out.lg
        have := HR.out.low.size
        exact ⟨by omega, by omega⟩)
      clear hx h1 h2 h3 hab
      have HP := Lib.hid (rv_put HR.out.drew (nd % (n : Int)) (vw % 3) sg)
      obtain ⟨nd', hnd'⟩ : ∃ y, nd % (n : Int) = y := ⟨_, rfl⟩
      obtain ⟨vw', hvw'⟩ : ∃ y, vw % 3 = y := ⟨_, rfl⟩
      have HWn2 := Lib.hid (HWn.out nd HFx.out.nd)
      have HW32 := Lib.hid (HW3.out vw HFx.out.vw)
      rw [hnd', hvw'] at HP
      rw [hnd'] at HWn2
      rw [hvw'] at HW32
      obtain ⟨ok, L', hpt⟩ : ∃ b L', ptC L nd' vw' sg = (b, L') := ⟨_, _, rfl⟩
      rw [hpt] at HP
      have HLn2 := Lib.hid (show L'.length = n by have := ptC_len L nd' vw' sg; rw [hpt] at this; exact this.trans HLn.out)
      have hq1 := HCells.out wr.drew rfl
      clear hnd' hvw' hpt
      go_wp2_with fail
      go_region_held3 (fun w' => w'.cell? ⟨(ad.add (k * 4)).block, (ad.add (k * 4)).off + 1, none⟩ = some (.int .i64 nd) ∧ w'.cell? ⟨(ad.add (k * 4)).block, (ad.add (k * 4)).off + 2, none⟩ = some (.int .i64 vw) ∧ w'.cell? ⟨(ad.add (k * 4)).block, (ad.add (k * 4)).off + 3, none⟩ = some (.int .i64 sg)) (first | exact hq1 | exact hq2 | go_keep)
        (first
          | (go_at_call 9; refine (HN.out _).mono ?_; rintro e wz ⟨rfl, rfl⟩)
          | (go_at_call 10; refine HP.out.mono ?_; rintro e w2 ⟨rfl, hR2, ht2⟩; have hq2 := HCells.out w2 (ht2.block _ HNE.out.1 HNE.out.2))
          | (go_at_call 7; with_reducible refine (HWn2.out _).mono ?_; rintro e wz ⟨rfl, rfl⟩)
          | (go_at_call 7; with_reducible refine (HW32.out _).mono ?_; rintro e wz ⟨rfl, rfl⟩))
      have HR2 := Lib.hid hR2
      clear hR2 ht2 hq1 hq2 HR HP
      go_wp2_with fail
      go_loopw [8, 9] (fun y x wz => ∃ (j : Nat), x = .int .i64 j ∧ j ≤ 3 ∧ y = .int .i64 (nEn L' q j) ∧ Hid (Rv w vb g c (1 + (p : Int)) L' wz)) (fun _ x _ => 3 - (intOf x).toNat)
      case atStart => exact ⟨0, rfl, Nat.zero_le _, rfl, HR2⟩
      case round =>
        clear HR2
        obtain ⟨j, rfl, hj, rfl, HR2⟩ := hrel
        have HJ := Lib.hid (nEn_le (L := L') (q := q) (by rw [HLn2.out]; exact HN13.out.2) j)
        by_cases hj3 : j < 3
        · have HE := Lib.hid (rv_enough HR2.out (j : Int) HQq.out)
          have HS := Lib.hid (HRi.out L' HLn2.out (j : Int))
          have HNx := Lib.hid (show nEn L' q (j + 1) = nEn L' q j + if (enC L' (j : Int) q).isSome then 1 else 0 from rfl)
          obtain ⟨r, hr⟩ : ∃ y, enC L' (j : Int) q = y := ⟨_, rfl⟩
          rw [hr] at HE HS HNx
          obtain ⟨x, hx⟩ : ∃ y, nEn L' q j = y := ⟨_, rfl⟩
          rw [hx] at HNx HJ ⊢
          have HX1 := Lib.hid (show x ≤ 1 by rcases HJ.out with h | h <;> omega)
          have HLv := Lib.hid (show (vtsC r).length ≤ maxLen from by
            cases r with
            | none => exact Nat.zero_le _
            | some v =>
              have e1 := (enC_is hr).2.2
              have : (vtsC (some v)).length = q := e1
              have := HQq.out
              have := HN13.out.1
              unfold maxLen; omega)
          obtain ⟨nl, hnl⟩ : ∃ y, (vtsC r).length = y := ⟨_, rfl⟩
          have HNl := Lib.hid hnl
          rw [hnl] at HE
          cases hb : r.isSome with
          | false =>
            rw [hb] at HE HS HNx
            have HX := Lib.hid (show nEn L' q (j + 1) = x from HNx.out)
            clear hr hx hnl hb
            go_wp2_with fail
            refine HE.out.mono ?_
            rintro e w3 ⟨A3, c3, rfl, ho, hb3, hR3⟩
            have HR3 := Lib.hid hR3
            have HRs := Lib.hid (rrising_any (has_rows ho) HNl.out (by rw [← HNl.out]; exact HLv.out) (1 + (p : Int)) (c := c3))
            rw [HS.out] at HRs
            clear ho hb3 hR3
            go_wp2_with fail
            refine HRs.out.mono ?_
            rintro e w4 ⟨rfl, i, rfl⟩
            go_wp2_with fail
            go_roundw
            case rel => exact ⟨j + 1, by go_num, by omega, by rw [HX.out], HR3.out.drewN i⟩
            case measure => simp [intOf]; omega
          | true =>
            rw [hb] at HE HS HNx
            have HX := Lib.hid (show nEn L' q (j + 1) = x + 1 from HNx.out)
            have hx1 := HX1.out
            clear hr hx hnl hb
            go_wp2_with fail
            refine HE.out.mono ?_
            rintro e w3 ⟨A3, c3, rfl, ho, hb3, hR3⟩
            have HR3 := Lib.hid hR3
            have HRs := Lib.hid (rrising_any (has_rows ho) HNl.out (by rw [← HNl.out]; exact HLv.out) (1 + (p : Int)) (c := c3))
            rw [HS.out] at HRs
            clear ho hb3 hR3
            go_wp2_with fail
            refine HRs.out.mono ?_
            rintro e w4 ⟨rfl, i, rfl⟩
            go_wp2_with fail
            go_roundw
            case rel => exact ⟨j + 1, by go_num, by omega, by rw [HX.out]; go_num, HR3.out.drewN i⟩
            case measure => simp [intOf]; omega
        · obtain rfl : j = 3 := by omega
          obtain ⟨x, hx⟩ : ∃ y, nEn L' q 3 = y := ⟨_, rfl⟩
          rw [hx] at HJ ⊢
          have gx : decide ((1 : Int) < (x : Int)) = false := decide_eq_false (by rcases HJ.out with h | h <;> omega)
          have gx2 : decide (1 < x) = false := decide_eq_false (by rcases HJ.out with h | h <;> omega)
          clear hx
          go_wp2_with fail
          go_roundw
          case rel => exact ⟨k + 1, L', by go_num, by omega, by omega, HLn2, HR2⟩
          case measure => simp [intOf]; omega
    · have hg : (decide ((k : Int) < (m : Int)) && decide ((k : Int) < 100)) = false := by simp; omega
      by_cases hk1 : k < m
      · go_wp2_with fail
        refine (wakes16_any _).mono ?_
        rintro e w9 ⟨rfl, hb9⟩
        go_wp2_with fail
        go_ret
        exact ⟨rfl, (HR.out.below hb9).low⟩
      · go_wp2_with fail
        refine (wakes16_any _).mono ?_
        rintro e w9 ⟨rfl, hb9⟩
        go_wp2_with fail
        go_ret
        exact ⟨rfl, (HR.out.below hb9).low⟩
end Go.Proofs.Ytfbipebijelfjaa
