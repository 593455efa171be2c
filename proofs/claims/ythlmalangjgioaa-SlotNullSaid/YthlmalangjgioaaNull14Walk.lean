/- The walk of SlotNull: it returns true for any int. -/
import Derived.Test.YthlmalangjgioaaSlot6
import Derived.Test.YthlmalangjgioaaRefBallot
namespace Go.Proofs.Ythlmalangjgioaa
open Go.RowKit
set_option linter.unusedSimpArgs false

def NlS (n i j : Nat) : Sx := ⟨some [], fillV i n ⟨true, 1, []⟩, fillV j n ⟨true, 2, []⟩⟩
theorem nl_pre (n : Nat) : (Sx.new n).pre [] = NlS n 0 0 := rfl
theorem nl_v4 {n i : Nat} (h : i < n) : (NlS n i i).vote 4 (i : Int) 1 [] = (true, NlS n (i + 1) i) := by
  unfold Sx.vote NlS
  rw [if_pos rfl]
  have := fillV_vote h (z := ⟨true, 1, []⟩) rfl
  simp only at this ⊢
  rw [this]
theorem nl_v5 {n i : Nat} (h : i < n) : (NlS n (i + 1) i).vote 5 (i : Int) 2 [] = (true, NlS n (i + 1) (i + 1)) := by
  unfold Sx.vote NlS
  rw [if_neg (by omega), if_pos rfl]
  have := fillV_vote h (z := ⟨true, 2, []⟩) rfl
  simp only at this ⊢
  rw [this]
theorem nl_prep {n i q : Nat} (h : i < q) : (NlS n i i).prep q = none := decS_fill (z := ⟨true, 1, []⟩) rfl (Or.inl h)
theorem nl_com {n i q : Nat} (h : i < q) : (NlS n i i).com q = none := comS_fill (z := ⟨true, 2, []⟩) rfl h
theorem nl_prep2 {n q : Nat} : ∃ v, (NlS n q q).prep q = some v ∧ v.length = q := decS_full (z := ⟨true, 1, []⟩) rfl (Nat.le_refl _)
theorem nl_com2 {n q : Nat} (h0 : 0 < q) (hn : n < 2 * q) (hi : q ≤ n) : ∃ v, (NlS n q q).com q = some ([], v) ∧ v.length = q := comS_full (z := ⟨true, 2, []⟩) rfl (Nat.le_refl _) h0 hn hi
set_option maxRecDepth 100000 in
set_option maxHeartbeats 4000000 in
theorem slotNull_walk (a0 : Int) (w : World) (w0 : (Lit.int .i64 a0).wf = true) :
    Calls Try.prog 4 #[.int .i64 a0] w fun e w' => e = .returned (.bool true) ∧ Below w.heap.size w w' := by
  obtain ⟨b0, b1⟩ := wf_i64 w0
  have HW4 := Lib.hid (fun w => within_any a0 4 (by omega) (by omega) b0 b1 w)
  have hf1 : 0 ≤ a0 % 4 ∧ a0 % 4 < 4 := ⟨Int.emod_nonneg _ (by omega), Int.emod_lt_of_pos _ (by omega)⟩
  obtain ⟨p, hp⟩ : ∃ p : Nat, a0 % 4 = p := ⟨(a0 % 4).toNat, by omega⟩
  rw [hp] at HW4 hf1
  obtain ⟨q, hq⟩ : ∃ q : Nat, (q : Int) = 2 * (1 + (p : Int)) + 1 := ⟨2 * p + 3, by omega⟩
  obtain ⟨n, hn⟩ : ∃ n : Nat, (n : Int) = 3 * (1 + (p : Int)) + 1 := ⟨3 * p + 4, by omega⟩
  have hqn : q ≤ n := by omega
  have hn2 : n < 2 * q := by omega
  have hq0 : 0 < q := by omega
  have hq9 : q ≤ 9 := by omega
  have HQ := Lib.hid (fun (w : World) => (show Calls Try.prog 19 #[.int .i64 (1 + p)] w fun e w' => e = .returned (.int .i64 (q : Int)) ∧ w = w' from by
    have := rquorum_any (1 + p) w
    rwa [quorumS_in (by omega) (by omega), ← hq] at this))
  have HNew := Lib.hid (fun w => rs_new (f := 1 + (p : Int)) (n := n) (by omega) (by omega) hn w w (Below.refl _ _))
  have HQq := Lib.hid hq
  have HQn := Lib.hid (And.intro hqn (And.intro hn2 (And.intro hq0 hq9)))
  clear w0 b0 b1 hp hn hq hqn hn2 hq0
  go_enter Try.func4, Try.ntmps4
  go_wp2_with fail
  refine (HW4.out _).mono ?_
  rintro e wa ⟨rfl, rfl⟩
  go_wp2_with fail
  refine (HNew.out _).mono ?_
  rintro e w1 ⟨sb, v1, v2, rfl, hR, -, -⟩
  have HR := Lib.hid hR
  clear hR
  go_wp2_with fail
  refine (spre_any HR.out.sl (A := none) (n := 0) (B := 0) (b := []) (Has.nil _ _ _) rfl (by omega)).mono ?_
  rintro e w2 ⟨rfl, hp⟩
  obtain ⟨u1, u2, hr⟩ := HR.out.post hp
  rw [show (!(Sx.new n).ch.isSome) = true from rfl]
  have HR2 := Lib.hid (show Rs _ sb u1 u2 (1 + (p : Int)) (NlS n 0 0) w2 from hr)
  clear hp hr HR
  have HBox := Lib.hid (Blk.new w2 32 #[.int .i64 0, .int .i64 1, .int .i64 0, .int .i64 0, .int .i64 0, .int .i64 0])
  have HR3 := Lib.hid (HR2.out.below (wz := w2.alloc (.cells #[.int .i64 0, .int .i64 1, .int .i64 0, .int .i64 0, .int .i64 0, .int .i64 0] 32)) ((Below.refl _ _).alloc (Nat.le_refl _) _))
  go_wp2_with fail
  refine (spre_any HR3.out.sl (has_one wk14 HBox.out) (n := 1) rfl (by omega)).mono ?_
  rintro e w3 ⟨rfl, hp⟩
  obtain ⟨t1, t2, hr⟩ := HR3.out.post hp
  rw [show (!(NlS n 0 0).ch.isSome) = false from rfl]
  have HR4 := Lib.hid (show Rs _ sb t1 t2 (1 + (p : Int)) (NlS n 0 0) w3 from hr)
  clear hp hr HR3 HR2 HBox
  go_wp2_with fail
  go_loopw [5] (fun x wr => ∃ (i : Nat) (v1 v2 : Value), x = .int .i64 i ∧ i ≤ q ∧ Hid (Rs w sb v1 v2 (1 + (p : Int)) (NlS n i i) wr)) (fun x _ => q - (intOf x).toNat)
  case atStart => exact ⟨0, t1, t2, rfl, Nat.zero_le _, HR4⟩
  case round =>
    obtain ⟨i, v1, v2, rfl, hi, HR⟩ := hrel
    by_cases hlt : i < q
    · have HP5 := Lib.hid (sprep_any HR.out.sl HQq.out)
      rw [nl_prep hlt] at HP5
      have HNC := Lib.hid (nl_com (n := n) hlt)
      have hin : i < n := by have := HQn.out.1; omega
      have HV4 := Lib.hid (nl_v4 hin)
      have HV5 := Lib.hid (nl_v5 hin)
      go_wp2_with fail
      refine (HQ.out _).mono ?_
      rintro e wq ⟨rfl, rfl⟩
      go_wp2_with fail
      refine HP5.out.mono ?_
      rintro e w5 ⟨u, rfl, ho, hb⟩
      obtain ⟨A5, d5, rfl, -, -⟩ := own_slice ho
      have HR5 := Lib.hid (HR.out.below hb)
      clear ho hb HP5 HR
      have HC6 := Lib.hid (scom_any HR5.out.sl HQq.out)
      rw [HNC.out] at HC6
      go_wp2_with fail
      refine HC6.out.mono ?_
      rintro e w6 ⟨u6, u7, rfl, ho, ho2, hb⟩
      obtain ⟨A6, d6, rfl, -, -⟩ := own_slice ho
      obtain ⟨A7, d7, rfl, -, -⟩ := own_slice ho2
      have HR6 := Lib.hid (HR5.out.below hb)
      clear ho ho2 hb HC6 HR5
      go_wp2_with fail
      refine (svote_any HR6.out.sl 4 i 1 (A := none) (n := 0) (B := 0) (b := []) (Has.nil _ _ _) rfl (by omega)).mono ?_
      rintro e w7 ⟨rfl, hp⟩
      obtain ⟨x1, x2, hr⟩ := HR6.out.post hp
      rw [HV4.out] at hr ⊢
      have HR7 := Lib.hid hr
      clear hp hr HR6
      have HR8 := Lib.hid (HR7.out.below (wz := w7.alloc (.cells #[] 32)) ((Below.refl _ _).alloc (Nat.le_refl _) _))
      go_wp2_with fail
      refine (svote_any HR8.out.sl 5 i 2 (A := some ⟨w7.heap.size, 0, none⟩) (n := 0) (B := 0) (b := []) (Has.nil _ _ _) rfl (by omega)).mono ?_
      rintro e w9 ⟨rfl, hp⟩
      obtain ⟨y1, y2, hr⟩ := HR8.out.post hp
      rw [HV5.out] at hr ⊢
      have HR9 := Lib.hid hr
      clear hp hr HR8 HR7
      go_wp2_with fail
      go_roundw
      case rel => exact ⟨i + 1, y1, y2, by go_num, by omega, HR9⟩
      case measure => simp [intOf]; omega
    · obtain rfl : i = q := by omega
      obtain ⟨pv, hpv, hpl⟩ := nl_prep2 (n := n) (q := i)
      obtain ⟨cv, hcv, hcl⟩ := nl_com2 HQn.out.2.2.1 HQn.out.2.1 HQn.out.1
      have HCh := Lib.hid (schosen_any HR.out.sl)
      rw [show (NlS n i i).ch.isSome = true from rfl, show (NlS n i i).ch.getD [] = [] from rfl] at HCh
      have HPv := Lib.hid hpv
      have HCv := Lib.hid hcv
      have HCl := Lib.hid hcl
      clear hpv hpl hcv hcl
      go_wp2_with fail
      refine (HQ.out _).mono ?_
      rintro e wq ⟨rfl, rfl⟩
      go_wp2_with fail
      refine HCh.out.mono ?_
      rintro e w5 ⟨u, rfl, ho, hb⟩
      obtain ⟨A5, d5, rfl, -, -⟩ := own_slice ho
      have HR5 := Lib.hid (HR.out.below hb)
      clear ho hb HCh HR
      have HP6 := Lib.hid (sprep_any HR5.out.sl HQq.out)
      rw [HPv.out] at HP6
      go_wp2_with fail
      refine HP6.out.mono ?_
      rintro e w6 ⟨u, rfl, ho, hb⟩
      obtain ⟨A6, d6, rfl, -, -⟩ := own_slice ho
      have HR6 := Lib.hid (HR5.out.below hb)
      clear ho hb HP6 HR5
      have HC7 := Lib.hid (scom_any HR6.out.sl HQq.out)
      rw [HCv.out] at HC7
      go_wp2_with fail
      refine HC7.out.mono ?_
      rintro e w7 ⟨u6, u7, rfl, ho, ho2, hb⟩
      obtain ⟨A8, d8, rfl, -, -⟩ := own_slice ho
      obtain ⟨A7, d7, rfl, -, -⟩ := own_slice ho2
      have HR7 := Lib.hid (HR6.out.below hb)
      rw [show batOf (some (([] : List Rq), cv)) = [] from rfl, show votOf (some (([] : List Rq), cv)) = cv from rfl, HCl.out]
      simp only [List.length_nil, Option.isSome_some]
      clear ho ho2 hb HC7 HR6
      go_wp2_with fail
      refine (HQ.out _).mono ?_
      rintro e wq ⟨rfl, rfl⟩
      go_wp2_with fail
      refine (wakes14_any _).mono ?_
      rintro e w9 ⟨rfl, hb9⟩
      go_wp2_with fail
      go_ret
      exact ⟨rfl, HR7.out.low.trans (hb9.mono HR7.out.low.size)⟩
end Go.Proofs.Ythlmalangjgioaa
