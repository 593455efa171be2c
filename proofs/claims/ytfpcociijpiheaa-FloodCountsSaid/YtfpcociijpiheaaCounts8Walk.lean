/- The walk of FloodCounts: it returns true for any three ints. -/
import Derived.Test.YtfpcociijpiheaaGuard
import Derived.Test.YtfpcociijpiheaaWithin
import Derived.Deep.DeepCutAuto
import Derived.Deep.RegionHeld3
namespace Go.Proofs.Ytfpcociijpiheaa
open Go.RowKit Go.Maps
set_option linter.unusedSimpArgs false

theorem Turn.undrewn {Z : Nat → Prop} {w w' : World} (h : Turn Z w.drew w') : Turn Z w w' := ⟨h.os, h.tape, h.output, h.size, h.block⟩
/-- The count behind one more bad message: k so far, of which x since the party was last shut out. -/
theorem count_next {k q x : Nat} (h : k % q = x) (_ : 0 < q) : (x + 1 = q → (k + 1) % q = 0) ∧ (x + 1 < q → (k + 1) % q = x + 1) := by
  have h1 := Nat.div_add_mod k q
  rw [h] at h1
  refine ⟨fun e => ?_, fun e => ?_⟩
  · have : k + 1 = q * (k / q + 1) := by rw [Nat.mul_add]; omega
    rw [this, Nat.mul_mod_right]
  · have : k + 1 = x + 1 + q * (k / q) := by omega
    rw [this, Nat.add_mul_mod_self_left, Nat.mod_eq_of_lt e]
theorem rem_is {k q r : Nat} (h : (k + 1) % q = r) : ((k : Int) + 1) % (q : Int) = (r : Int) ∧ ((k : Int) + 1).tmod (q : Int) = (r : Int) := by
  have h1 : ((k : Int) + 1) % (q : Int) = (r : Int) := by rw [← h, Int.natCast_emod]; rfl
  exact ⟨h1, by rw [Int.tmod_eq_emod_of_nonneg (by omega)]; exact h1⟩
set_option maxHeartbeats 8000000 in
set_option maxRecDepth 100000 in
theorem floodCounts_walk (a0 a1 a2 : Int) (w : World) (w0 : (Lit.int .i64 a0).wf = true) (w1 : (Lit.int .i64 a1).wf = true) (w2 : (Lit.int .i64 a2).wf = true) :
    Calls Try.prog 3 #[.int .i64 a0, .int .i64 a1, .int .i64 a2] w fun e w' => e = .returned (.bool true) ∧ Below w.heap.size w w' := by
  obtain ⟨b0, b1⟩ := wf_i64 w0
  obtain ⟨b2, b3⟩ := wf_i64 w1
  obtain ⟨b4, b5⟩ := wf_i64 w2
  obtain ⟨a, ha⟩ : ∃ a : Nat, a0 % 20 = a := ⟨(a0 % 20).toNat, by omega⟩
  obtain ⟨b, hb⟩ : ∃ b : Nat, a1 % 20 = b := ⟨(a1 % 20).toNat, by omega⟩
  obtain ⟨n, hn⟩ : ∃ n : Nat, a2 % 100 = n := ⟨(a2 % 100).toNat, by omega⟩
  have ha1 : a < 20 := by omega
  have hb1 : b < 20 := by omega
  have hn1 : n < 100 := by omega
  have HW0 := Lib.hid (fun w => within_any a0 20 (by omega) (by omega) b0 b1 w)
  have HW1 := Lib.hid (fun w => within_any a1 20 (by omega) (by omega) b2 b3 w)
  have HW2 := Lib.hid (fun w => within_any a2 100 (by omega) (by omega) b4 b5 w)
  rw [ha] at HW0
  rw [hb] at HW1
  rw [hn] at HW2
  have F7 := Lib.hid (fit_of (z := 7) (by omega) (by omega))
  have F8 := Lib.hid (fit_of (z := 8) (by omega) (by omega))
  have F0 := Lib.hid (fit_of (z := 0) (by omega) (by omega))
  have HM := Lib.hid (show ∀ N : Nat, N ≤ 100 → N < maxLen from fun N h => by unfold maxLen; omega)
  clear ha hb hn w0 w1 w2 b0 b1 b2 b3 b4 b5
  go_enter Try.func3, Try.ntmps3
  go_wp2_with fail
  refine (HW0.out _).mono ?_
  rintro e wv ⟨rfl, rfl⟩
  go_wp2_with fail
  refine (HW1.out _).mono ?_
  rintro e wv ⟨rfl, rfl⟩
  go_wp2_with fail
  refine (HW2.out _).mono ?_
  rintro e wv ⟨rfl, rfl⟩
  go_wp2_with fail
  refine (gnew_any (m := 1 + (a : Int)) (t := 1 + (b : Int)) (by omega) (by omega) _).mono ?_
  rintro e w1 ⟨gb, bm, rfl, hG, h1, h2, hb⟩
  have HZ := Lib.hid (show ∀ k, k < w.heap.size → ¬ k = bm from fun k hk he => by omega)
  have HB := Lib.hid hb
  have HG := Lib.hid hG
  clear hb hG h1 h2
  go_wp2_with fail
  go_loopw [9] (fun y wr => ∃ (k : Nat) (S : Gs) (x : Nat) (u : Int), y = .int .i64 ((k : Int) + 1) ∧ k ≤ n ∧ k % (a + 2) = x ∧ Hid (Gd wr gb bm (1 + a) (1 + b) k S) ∧ Hid (S 7 = ((x : Int), u)) ∧ Hid (S 8 = (0, 0)) ∧ Hid (Below w.heap.size w wr)) (fun y _ => n + 1 - (intOf y).toNat)
  case atStart => exact ⟨0, Gs.new, 0, 0, rfl, Nat.zero_le _, by simp, HG, Lib.hid rfl, Lib.hid rfl, HB⟩
  case round =>
    obtain ⟨k, S, x, u, rfl, hk, hx, HG, HS, HS8, HB⟩ := hrel
    by_cases hlt : k < n
    · have hx1 : x < a + 2 := by rw [← hx]; exact Nat.mod_lt _ (by omega)
      obtain ⟨hn0, hn1'⟩ := count_next hx (by omega)
      have hq0 : ¬ ((1 : Int) + (a : Int) + 1 = 0) := by omega
      have hqe : (1 : Int) + (a : Int) + 1 = ((a + 2 : Nat) : Int) := by omega
      have HGd := Lib.hid (show Gd wr.drew gb bm (1 + a) (1 + b) k S from HG.out.drewN 1)
      have HN1 := Lib.hid (near_same (c := (k : Int) + 1) (by omega))
      have HN2 := Lib.hid (near_same (c := (k : Int) + 1 + (1 + (b : Int)) - 1) (by omega))
      have HN3 := Lib.hid (near_same (c := (k : Int) + 1 + (1 + (b : Int))) (by omega))
      by_cases hc : x + 1 = a + 2
      · obtain ⟨hr, hr2⟩ := rem_is (hn0 hc)
        rw [← hqe] at hr hr2
        have HR := Lib.hid (hn0 hc)
        simp only [Int.ofNat_zero] at hr hr2
        have KB := Lib.hid (bad_on HGd.out (HM.out k (by omega)) (by omega) (by omega) F7.out (fit_of (by omega) (by omega)) (c := (k : Int) + 1) HS.out (by omega) (by omega))
        rw [HN1.out] at KB
        have hw0 : IntKind.i64.wrap (1 + (a : Int) + 1) = 1 + (a : Int) + 1 := IntWalk.i64_in _ ⟨by omega, by omega⟩
        have hw1 : IntKind.i64.wrap ((k : Int) + 1 + (1 + (b : Int))) = (k : Int) + 1 + (1 + (b : Int)) := IntWalk.i64_in _ ⟨by omega, by omega⟩
        have hw2 : IntKind.i64.wrap ((k : Int) + 1 + (1 + (b : Int)) - 1) = (k : Int) + 1 + (1 + (b : Int)) - 1 := IntWalk.i64_in _ ⟨by omega, by omega⟩
        clear hn0 hn1' hqe hx
        go_wp2_with fail
        have hk0 := HGd.out.blk.cell 0
        simp only [List.getElem?_toArray, List.getElem?_cons_zero] at hk0
        go_region_held3 (fun w' => w'.cell? ⟨gb, 0, none⟩ = some (.int .i64 (1 + (a : Int)))) (first | exact hk0 | exact hk2 | exact hk4 | exact hk5 | go_keep) (first
          | (go_at_call 7; (with_reducible refine KB.out.mono ?_); rintro e w2 ⟨rfl, hG2, ht2⟩; have hk2 := hG2.blk.cell 0; simp only [List.getElem?_toArray, List.getElem?_cons_zero] at hk2)
          | (go_at_call 8; (with_reducible refine (count_on hG2 F7.out (Gs.set_same _ _ _)).mono ?_); rintro e w3 ⟨rfl, rfl⟩)
          | (go_at_call 9; (with_reducible refine (shut_on hG2 F7.out ?_ (c := (k : Int) + 1 + (1 + (b : Int)) - 1) (Gs.set_same _ _ _) ?_).mono ?_); (· exact fit_of (by omega) (by omega)); (· rw [HN2.out]; omega); rintro e w4 ⟨rfl, hG4, hb4⟩; have hk4 := hG4.blk.cell 0; simp only [List.getElem?_toArray, List.getElem?_cons_zero] at hk4)
          | (go_at_call 9; (with_reducible refine (shut_off hG4 F7.out ?_ (c := (k : Int) + 1 + (1 + (b : Int))) (Gs.set_same _ _ _) ?_).mono ?_); (· exact fit_of (by omega) (by omega)); (· rw [HN3.out]; omega); rintro e w5 ⟨rfl, hG5, hb5⟩; have hk5 := hG5.blk.cell 0; simp only [List.getElem?_toArray, List.getElem?_cons_zero] at hk5))
        all_goals
          have HG5 := Lib.hid hG5
          have HB5 := Lib.hid (HB.out.trans ((show Below w.heap.size wr w5 from ((show Turn (fun k => k = bm) wr w2 from ht2.undrewn).below HB.out.size HZ.out).trans ((hb4.mono (by have := ht2.size; have := HB.out.size; exact Nat.le_trans HB.out.size ht2.size)).trans (hb5.mono (Nat.le_trans HB.out.size (Nat.le_trans ht2.size hb4.size)))))))
          clear hG2 ht2 hG4 hb4 hG5 hb5 hk0 hk2 hk4 hk5
          go_wp2_with fail
          go_roundw
          case rel => exact ⟨k + 1, _, 0, (k : Int) + 1 + (1 + (b : Int)), by go_num, by omega, HR.out, HG5, Lib.hid (Gs.set_same _ _ _), Lib.hid ((Gs.set_other _ (by omega) _).trans HS8.out), HB5⟩
          case measure => simp [intOf]; omega
      · obtain ⟨hr, hr2⟩ := rem_is (hn1' (by omega))
        rw [← hqe] at hr hr2
        have HR := Lib.hid (hn1' (by omega))
        have hne : ¬ (((x + 1 : Nat) : Int) = 0) := by omega
        have KB := Lib.hid (bad_off HGd.out (HM.out k (by omega)) (by omega) (by omega) F7.out (fit_of (by omega) (by omega)) (c := (k : Int) + 1) HS.out (by omega) (by omega))
        have hw0 : IntKind.i64.wrap (1 + (a : Int) + 1) = 1 + (a : Int) + 1 := IntWalk.i64_in _ ⟨by omega, by omega⟩
        obtain ⟨y, hy⟩ : ∃ y : Int, ((x + 1 : Nat) : Int) = y := ⟨_, rfl⟩
        have hyx : (x : Int) + 1 = y := by omega
        rw [hyx] at KB
        rw [hy] at hr hr2 hne
        have hkb : 0 ≤ y ∧ y ≤ 100 := by omega
        have HY := Lib.hid hy
        have hy0 : (y == 0) = false := beq_eq_false_iff_ne.2 hne
        clear hn0 hn1' hqe hx hy hyx
        go_wp2_with fail
        have hk0 := HGd.out.blk.cell 0
        simp only [List.getElem?_toArray, List.getElem?_cons_zero] at hk0
        refine wp_region_held_drew (S := fun w' => w'.cell? ⟨gb, 0, none⟩ = some (.int .i64 (1 + (a : Int)))) (by kernel_rfl) (hk0) (fun hHeld => ?_)
        refine wpAnyH_take (i := 0) (v := ?_) rfl (by kernel_rfl) (by kernel_rfl) (by kernel_rfl) (fun _ _ _ h => h) (Or.inl ⟨by rfl, ?_⟩) (by assumption) ?_
        rotate_left
        · (intro w hSw; (try dsimp only at hSw); first | (go_simp; done) | (go_simp; with_reducible rfl))
        try simp only [Act.put, List.getElem_toArray, List.getElem_cons_zero, List.getElem_cons_succ, List.setIfInBounds_toArray, List.set_cons_zero, List.set_cons_succ]
        refine wpAnyH_take (i := 1) (v := ?_) rfl (by kernel_rfl) (by kernel_rfl) (by kernel_rfl) (fun _ _ _ h => h) (Or.inl ⟨by rfl, ?_⟩) (by assumption) ?_
        rotate_left
        · (intro w hSw; (try dsimp only at hSw); first | (go_simp; done) | (go_simp; with_reducible rfl))
        try simp only [Act.put, List.getElem_toArray, List.getElem_cons_zero, List.getElem_cons_succ, List.setIfInBounds_toArray, List.set_cons_zero, List.set_cons_succ]
        refine wpAnyH_take (i := 3) (v := ?_) rfl (by kernel_rfl) (by kernel_rfl) (by kernel_rfl) (fun _ _ _ h => h) (Or.inl ⟨by rfl, ?_⟩) (by assumption) ?_
        rotate_left
        · (intro w hSw; (try dsimp only at hSw); first | (go_simp; done) | (go_simp; with_reducible rfl))
        try simp only [Act.put, List.getElem_toArray, List.getElem_cons_zero, List.getElem_cons_succ, List.setIfInBounds_toArray, List.set_cons_zero, List.set_cons_succ]
        refine wpAnyH_ready (rs := [2]) (by kernel_rfl) (by simp) ?_
        refine AllReadyH.cons rfl (fun K hK => ?_) AllReadyH.nil
        go_simp
        go_at_call 7
        refine KB.out.mono ?_
        rintro e w2 ⟨rfl, hG2, ht2⟩
        have hk2 := hG2.blk.cell 0
        simp only [List.getElem?_toArray, List.getElem?_cons_zero] at hk2
        refine hK.out _ _ (hk2) (fun hHeld => ?_)
        clear hK K
        try simp only [Act.put, List.getElem_toArray, List.getElem_cons_zero, List.getElem_cons_succ, List.setIfInBounds_toArray, List.set_cons_zero, List.set_cons_succ]
        refine wpAnyH_take (i := 4) (v := ?_) rfl (by kernel_rfl) (by kernel_rfl) (by kernel_rfl) (fun _ _ _ h => h) (Or.inl ⟨by rfl, ?_⟩) (by assumption) ?_
        rotate_left
        · (intro w hSw; (try dsimp only at hSw); first | (go_simp; done) | (go_simp; with_reducible rfl))
        try simp only [Act.put, List.getElem_toArray, List.getElem_cons_zero, List.getElem_cons_succ, List.setIfInBounds_toArray, List.set_cons_zero, List.set_cons_succ]
        refine wpAnyH_take (i := 5) (v := ?_) rfl (by kernel_rfl) (by kernel_rfl) (by kernel_rfl) (fun _ _ _ h => h) (Or.inl ⟨by rfl, ?_⟩) (by assumption) ?_
        rotate_left
        · (intro w hSw; (try dsimp only at hSw); first | (go_simp; done) | (go_simp; with_reducible rfl))
        try simp only [Act.put, List.getElem_toArray, List.getElem_cons_zero, List.getElem_cons_succ, List.setIfInBounds_toArray, List.set_cons_zero, List.set_cons_succ]
        refine wpAnyH_take (i := 6) (v := ?_) rfl (by kernel_rfl) (by kernel_rfl) (by kernel_rfl) (fun _ _ _ h => h) (Or.inl ⟨by rfl, ?_⟩) (by assumption) ?_
        rotate_left
        · (intro w hSw; (try dsimp only at hSw); first | (go_simp; done) | (go_simp; with_reducible rfl))
        try simp only [Act.put, List.getElem_toArray, List.getElem_cons_zero, List.getElem_cons_succ, List.setIfInBounds_toArray, List.set_cons_zero, List.set_cons_succ]
        refine wpAnyH_take (i := 8) (v := ?_) rfl (by kernel_rfl) (by kernel_rfl) (by kernel_rfl) (fun _ _ _ h => h) (Or.inl ⟨by rfl, ?_⟩) (by assumption) ?_
        rotate_left
        · (intro w hSw; (try dsimp only at hSw); first | (go_simp; done) | (go_simp; with_reducible rfl))
        try simp only [Act.put, List.getElem_toArray, List.getElem_cons_zero, List.getElem_cons_succ, List.setIfInBounds_toArray, List.set_cons_zero, List.set_cons_succ]
        refine wpAnyH_take (i := 9) (v := ?_) rfl (by kernel_rfl) (by kernel_rfl) (by kernel_rfl) (fun _ _ _ h => h) (Or.inl ⟨by rfl, ?_⟩) (by assumption) ?_
        rotate_left
        · (intro w hSw; (try dsimp only at hSw); first | (go_simp; done) | (go_simp; with_reducible rfl))
        try simp only [Act.put, List.getElem_toArray, List.getElem_cons_zero, List.getElem_cons_succ, List.setIfInBounds_toArray, List.set_cons_zero, List.set_cons_succ]
        refine wpAnyH_take (i := 10) (v := ?_) rfl (by kernel_rfl) (by kernel_rfl) (by kernel_rfl) (fun _ _ _ h => h) (Or.inl ⟨by rfl, ?_⟩) (by assumption) ?_
        rotate_left
        · (intro w hSw; (try dsimp only at hSw); first | (go_simp; done) | (go_simp; with_reducible rfl))
        try simp only [Act.put, List.getElem_toArray, List.getElem_cons_zero, List.getElem_cons_succ, List.setIfInBounds_toArray, List.set_cons_zero, List.set_cons_succ]
        refine wpAnyH_take (i := 11) (v := ?_) rfl (by kernel_rfl) (by kernel_rfl) (by kernel_rfl) (fun _ _ _ h => h) (Or.inl ⟨by rfl, ?_⟩) (by assumption) ?_
        rotate_left
        · (intro w hSw; (try dsimp only at hSw); first | (go_simp; done) | (go_simp; with_reducible rfl))
        try simp only [Act.put, List.getElem_toArray, List.getElem_cons_zero, List.getElem_cons_succ, List.setIfInBounds_toArray, List.set_cons_zero, List.set_cons_succ]
        refine wpAnyH_ready (rs := [7]) (by kernel_rfl) (by simp) ?_
        refine AllReadyH.cons rfl (fun K hK => ?_) AllReadyH.nil
        go_simp
        go_at_call 8
        refine (count_on hG2 F7.out (Gs.set_same _ _ _)).mono ?_
        rintro e w3 ⟨rfl, rfl⟩
        refine hK.out _ _ (hk2) (fun hHeld => ?_)
        clear hK K
        try simp only [Act.put, List.getElem_toArray, List.getElem_cons_zero, List.getElem_cons_succ, List.setIfInBounds_toArray, List.set_cons_zero, List.set_cons_succ]
        refine wpAnyH_take (i := 12) (v := ?_) rfl (by kernel_rfl) (by kernel_rfl) (by kernel_rfl) (fun _ _ _ h => h) (Or.inl ⟨by rfl, ?_⟩) (by assumption) ?_
        rotate_left
        · (intro w hSw; (try dsimp only at hSw); first | (go_simp; done) | (go_simp; with_reducible rfl))
        try simp only [Act.put, List.getElem_toArray, List.getElem_cons_zero, List.getElem_cons_succ, List.setIfInBounds_toArray, List.set_cons_zero, List.set_cons_succ]
        refine wpAnyH_take (i := 13) (v := ?_) rfl (by kernel_rfl) (by kernel_rfl) (by kernel_rfl) (fun _ _ _ h => h) (Or.inl ⟨by rfl, ?_⟩) (by assumption) ?_
        rotate_left
        · (intro w hSw; (try dsimp only at hSw); first | (go_simp; done) | (go_simp; with_reducible rfl))
        try simp only [Act.put, List.getElem_toArray, List.getElem_cons_zero, List.getElem_cons_succ, List.setIfInBounds_toArray, List.set_cons_zero, List.set_cons_succ]
        refine wpAnyH_take (i := 14) (v := ?_) rfl (by kernel_rfl) (by kernel_rfl) (by kernel_rfl) (fun _ _ _ h => h) (Or.inl ⟨by rfl, ?_⟩) (by assumption) ?_
        rotate_left
        · (intro w hSw; (try dsimp only at hSw); first | (go_simp; done) | (go_simp; with_reducible rfl))
        try simp only [Act.put, List.getElem_toArray, List.getElem_cons_zero, List.getElem_cons_succ, List.setIfInBounds_toArray, List.set_cons_zero, List.set_cons_succ]
        refine wpAnyH_take (i := 15) (v := ?_) rfl (by kernel_rfl) (by kernel_rfl) (by kernel_rfl) (fun _ _ _ h => h) (Or.inl ⟨by rfl, ?_⟩) (by assumption) ?_
        rotate_left
        · (intro w hSw; (try dsimp only at hSw); first | (go_simp; done) | (go_simp; with_reducible rfl))
        try simp only [Act.put, List.getElem_toArray, List.getElem_cons_zero, List.getElem_cons_succ, List.setIfInBounds_toArray, List.set_cons_zero, List.set_cons_succ]
        refine wpAnyH_take (i := 16) (v := ?_) rfl (by kernel_rfl) (by kernel_rfl) (by kernel_rfl) (fun _ _ _ h => h) (Or.inl ⟨by rfl, ?_⟩) (by assumption) ?_
        rotate_left
        · (intro w hSw; (try dsimp only at hSw); first | (go_simp; done) | (go_simp; with_reducible rfl))
        try simp only [Act.put, List.getElem_toArray, List.getElem_cons_zero, List.getElem_cons_succ, List.setIfInBounds_toArray, List.set_cons_zero, List.set_cons_succ]
        refine wpAnyH_take (i := 17) (v := undef) rfl (by kernel_rfl) (by kernel_rfl) (by kernel_rfl) (fun _ _ _ h => h) (Or.inr ⟨by kernel_rfl, rfl⟩) (by assumption) ?_
        try simp only [Act.put, List.getElem_toArray, List.getElem_cons_zero, List.getElem_cons_succ, List.setIfInBounds_toArray, List.set_cons_zero, List.set_cons_succ]
        refine wpAnyH_take (i := 18) (v := undef) rfl (by kernel_rfl) (by kernel_rfl) (by kernel_rfl) (fun _ _ _ h => h) (Or.inr ⟨by kernel_rfl, rfl⟩) (by assumption) ?_
        try simp only [Act.put, List.getElem_toArray, List.getElem_cons_zero, List.getElem_cons_succ, List.setIfInBounds_toArray, List.set_cons_zero, List.set_cons_succ]
        refine wpAnyH_take (i := 19) (v := undef) rfl (by kernel_rfl) (by kernel_rfl) (by kernel_rfl) (fun _ _ _ h => h) (Or.inr ⟨by kernel_rfl, rfl⟩) (by assumption) ?_
        try simp only [Act.put, List.getElem_toArray, List.getElem_cons_zero, List.getElem_cons_succ, List.setIfInBounds_toArray, List.set_cons_zero, List.set_cons_succ]
        refine wpAnyH_take (i := 20) (v := undef) rfl (by kernel_rfl) (by kernel_rfl) (by kernel_rfl) (fun _ _ _ h => h) (Or.inr ⟨by kernel_rfl, rfl⟩) (by assumption) ?_
        try simp only [Act.put, List.getElem_toArray, List.getElem_cons_zero, List.getElem_cons_succ, List.setIfInBounds_toArray, List.set_cons_zero, List.set_cons_succ]
        refine wpAnyH_take (i := 21) (v := undef) rfl (by kernel_rfl) (by kernel_rfl) (by kernel_rfl) (fun _ _ _ h => h) (Or.inr ⟨by kernel_rfl, rfl⟩) (by assumption) ?_
        try simp only [Act.put, List.getElem_toArray, List.getElem_cons_zero, List.getElem_cons_succ, List.setIfInBounds_toArray, List.set_cons_zero, List.set_cons_succ]
        refine wpAnyH_take (i := 22) (v := undef) rfl (by kernel_rfl) (by kernel_rfl) (by kernel_rfl) (fun _ _ _ h => h) (Or.inr ⟨by kernel_rfl, rfl⟩) (by assumption) ?_
        try simp only [Act.put, List.getElem_toArray, List.getElem_cons_zero, List.getElem_cons_succ, List.setIfInBounds_toArray, List.set_cons_zero, List.set_cons_succ]
        refine wpAnyH_take (i := 23) (v := undef) rfl (by kernel_rfl) (by kernel_rfl) (by kernel_rfl) (fun _ _ _ h => h) (Or.inr ⟨by kernel_rfl, rfl⟩) (by assumption) ?_
        try simp only [Act.put, List.getElem_toArray, List.getElem_cons_zero, List.getElem_cons_succ, List.setIfInBounds_toArray, List.set_cons_zero, List.set_cons_succ]
        refine wpAnyH_take (i := 24) (v := undef) rfl (by kernel_rfl) (by kernel_rfl) (by kernel_rfl) (fun _ _ _ h => h) (Or.inr ⟨by kernel_rfl, rfl⟩) (by assumption) ?_
        try simp only [Act.put, List.getElem_toArray, List.getElem_cons_zero, List.getElem_cons_succ, List.setIfInBounds_toArray, List.set_cons_zero, List.set_cons_succ]
        refine wpAnyH_take (i := 25) (v := undef) rfl (by kernel_rfl) (by kernel_rfl) (by kernel_rfl) (fun _ _ _ h => h) (Or.inr ⟨by kernel_rfl, rfl⟩) (by assumption) ?_
        try simp only [Act.put, List.getElem_toArray, List.getElem_cons_zero, List.getElem_cons_succ, List.setIfInBounds_toArray, List.set_cons_zero, List.set_cons_succ]
        refine wpAnyH_take (i := 26) (v := undef) rfl (by kernel_rfl) (by kernel_rfl) (by kernel_rfl) (fun _ _ _ h => h) (Or.inr ⟨by kernel_rfl, rfl⟩) (by assumption) ?_
        try simp only [Act.put, List.getElem_toArray, List.getElem_cons_zero, List.getElem_cons_succ, List.setIfInBounds_toArray, List.set_cons_zero, List.set_cons_succ]
        refine wpAnyH_take (i := 27) (v := undef) rfl (by kernel_rfl) (by kernel_rfl) (by kernel_rfl) (fun _ _ _ h => h) (Or.inr ⟨by kernel_rfl, rfl⟩) (by assumption) ?_
        try simp only [Act.put, List.getElem_toArray, List.getElem_cons_zero, List.getElem_cons_succ, List.setIfInBounds_toArray, List.set_cons_zero, List.set_cons_succ]
        refine wpAnyH_take (i := 28) (v := undef) rfl (by kernel_rfl) (by kernel_rfl) (by kernel_rfl) (fun _ _ _ h => h) (Or.inr ⟨by kernel_rfl, rfl⟩) (by assumption) ?_
        try simp only [Act.put, List.getElem_toArray, List.getElem_cons_zero, List.getElem_cons_succ, List.setIfInBounds_toArray, List.set_cons_zero, List.set_cons_succ]
        refine wpAnyH_take (i := 29) (v := undef) rfl (by kernel_rfl) (by kernel_rfl) (by kernel_rfl) (fun _ _ _ h => h) (Or.inr ⟨by kernel_rfl, rfl⟩) (by assumption) ?_
        try simp only [Act.put, List.getElem_toArray, List.getElem_cons_zero, List.getElem_cons_succ, List.setIfInBounds_toArray, List.set_cons_zero, List.set_cons_succ]
        refine wpAnyH_take (i := 30) (v := undef) rfl (by kernel_rfl) (by kernel_rfl) (by kernel_rfl) (fun _ _ _ h => h) (Or.inr ⟨by kernel_rfl, rfl⟩) (by assumption) ?_
        try simp only [Act.put, List.getElem_toArray, List.getElem_cons_zero, List.getElem_cons_succ, List.setIfInBounds_toArray, List.set_cons_zero, List.set_cons_succ]
        refine wpAnyH_take (i := 31) (v := ?_) rfl (by kernel_rfl) (by kernel_rfl) (by kernel_rfl) (fun _ _ _ h => h) (Or.inl ⟨by rfl, ?_⟩) (by assumption) ?_
        rotate_left
        · (intro w hSw; (try dsimp only at hSw); first | (go_simp; done) | (go_simp; with_reducible rfl))
        try simp only [Act.put, List.getElem_toArray, List.getElem_cons_zero, List.getElem_cons_succ, List.setIfInBounds_toArray, List.set_cons_zero, List.set_cons_succ]
        refine wpAnyH_take (i := 32) (v := ?_) rfl (by kernel_rfl) (by kernel_rfl) (by kernel_rfl) (fun _ _ _ h => h) (Or.inl ⟨by rfl, ?_⟩) (by assumption) ?_
        rotate_left
        · (intro w hSw; (try dsimp only at hSw); first | (go_simp; done) | (go_simp; with_reducible rfl))
        try simp only [Act.put, List.getElem_toArray, List.getElem_cons_zero, List.getElem_cons_succ, List.setIfInBounds_toArray, List.set_cons_zero, List.set_cons_succ]
        refine wpAnyH_done (by kernel_rfl) ?_ _
        all_goals
          have HG2 := Lib.hid hG2
          have HB2 := Lib.hid (HB.out.trans ((show Turn (fun k => k = bm) wr w2 from ht2.undrewn).below HB.out.size HZ.out))
          clear hG2 ht2
          go_wp2_with fail
          go_roundw
          case rel => exact ⟨k + 1, _, x + 1, u, by go_num, by omega, HR.out, HG2, Lib.hid ((Gs.set_same _ _ _).trans (by rw [HY.out])), Lib.hid ((Gs.set_other _ (by omega) _).trans HS8.out), HB2⟩
          case measure => simp [intOf]; omega
    · obtain rfl : k = n := by omega
      go_wp2_with fail
      refine (count_on HG.out F8.out HS8.out).mono ?_
      rintro e w2 ⟨rfl, rfl⟩
      go_wp2_with fail
      refine (shut_off HG.out F8.out F0.out HS8.out (by decide)).mono ?_
      rintro e w3 ⟨rfl, hG3, hb3⟩
      have HB3 := Lib.hid (HB.out.trans (hb3.mono HB.out.size))
      clear hG3 hb3
      go_wp2_with fail
      refine (wakes8_any _).mono ?_
      rintro e w4 ⟨rfl, hb4⟩
      go_wp2_with fail
      go_ret
      exact ⟨rfl, HB3.out.trans (hb4.mono HB3.out.size)⟩
end Go.Proofs.Ytfpcociijpiheaa
