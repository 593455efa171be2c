/- The walk of CacheRises: it returns true for any list of acts and any int. -/
import Derived.Test.YtibpleemclokiaaCacheOne
import Derived.Test.YtibpleemclokiaaWithin
import Derived.Deep.DeepCutAuto
import Derived.Deep.RegionHeld3
namespace Go.Proofs.Ytibpleemclokiaa
open Go.RowKit Go.Maps
set_option linter.unusedSimpArgs false

set_option maxRecDepth 100000 in
set_option maxHeartbeats 4000000 in
theorem cacheRises_walk (A : Option Addr) (c0 : Nat) (l : List Ac) (a1 : Int) (w : World) (w0 : IsActs w A l c0) (w1 : (Lit.int .i64 a1).wf = true) :
    Calls Try.prog 5 #[.slice A l.length c0, .int .i64 a1] w fun e w' => e = .returned (.bool true) ∧ Below w.heap.size w w' := by
  obtain ⟨b0, b1⟩ := wf_i64 w1
  obtain ⟨q, hq⟩ : ∃ q : Nat, a1 % 4 = q := ⟨(a1 % 4).toNat, by omega⟩
  have hq4 : q < 4 := by omega
  have HW := Lib.hid (fun w => within_any a1 4 (by omega) (by omega) b0 b1 w)
  rw [hq] at HW
  have HA := Lib.hid w0.has
  have HF := Lib.hid w0.came
  obtain ⟨n, hn⟩ : ∃ n, l.length = n := ⟨_, rfl⟩
  rw [hn]
  have HN := Lib.hid hn
  have HM := Lib.hid (show n ≤ maxLen by rw [← hn]; exact Nat.le_trans w0.le w0.most)
  clear hq w0 w1 b0 b1 hn
  go_enter Try.func5, Try.ntmps5
  go_wp2_with fail
  refine (rc_new (n := 4) (by omega) (by omega) w w (Below.refl _ _)).mono ?_
  rintro e w1 ⟨cb, g, c, rfl, hC, -, -, -⟩
  have HC := Lib.hid hC
  clear hC
  go_wp2_with fail
  refine (HW.out _).mono ?_
  rintro e wv ⟨rfl, rfl⟩
  go_wp2_with fail
  go_loopw [7] (fun x wr => ∃ (k : Nat) (L : List (Int × Int)), x = .int .i64 k ∧ k ≤ n ∧ k ≤ 100 ∧ Hid (Rc w cb g c L wr)) (fun x _ => n - (intOf x).toNat)
  case atStart => exact ⟨0, _, rfl, Nat.zero_le _, Nat.zero_le _, HC⟩
  case round =>
    obtain ⟨k, L, rfl, hk, hk2, HC⟩ := hrel
    by_cases hlt : k < n ∧ k < 100
    · obtain ⟨hlt1, hlt2⟩ := hlt
      obtain ⟨ad, rfl, hab, -, h1, h2, h3⟩ := act_at (HC.out.has HA.out) (show k < l.length by rw [HN.out]; exact hlt1)
      obtain ⟨⟨dd, cl, tm, rs⟩, hx⟩ : ∃ x, l[k]'(by rw [HN.out]; exact hlt1) = x := ⟨_, rfl⟩
      have HFx := Lib.hid (show Ac.Came w ⟨dd, cl, tm, rs⟩ from hx ▸ HF.out _ (List.getElem_mem _))
      rw [hx] at h1 h2 h3
      simp only at h1 h2 h3
      have HCells := Lib.hid (fun (w' : World) (hb : w'.heap[(ad.add (k * 4)).block]? = wr.heap[(ad.add (k * 4)).block]?) => show (w'.cell? ⟨(ad.add (k * 4)).block, (ad.add (k * 4)).off + 1, none⟩ = some (.int .i64 cl) ∧ w'.cell? ⟨(ad.add (k * 4)).block, (ad.add (k * 4)).off + 2, none⟩ = some (.int .i64 tm) ∧ w'.cell? ⟨(ad.add (k * 4)).block, (ad.add (k * 4)).off + 3, none⟩ = some (.int .i64 rs)) from ⟨(World.cell?_of_block (a := ⟨(ad.add (k * 4)).block, (ad.add (k * 4)).off + 1, none⟩) hb).trans h1, (World.cell?_of_block (a := ⟨(ad.add (k * 4)).block, (ad.add (k * 4)).off + 2, none⟩) hb).trans h2, (World.cell?_of_block (a := ⟨(ad.add (k * 4)).block, (ad.add (k * 4)).off + 3, none⟩) hb).trans h3⟩)
      have HNE := Lib.hid (show (ad.add (k * 4)).block < wr.heap.size ∧ (ad.add (k * 4)).block ≠ g from by
        rw [addr_block]
        have := HC.out.lg
        have := HC.out.low.size
        exact ⟨by omega, by omega⟩)
      clear hx h1 h2 h3 hab
      obtain ⟨was, hwas⟩ : ∃ x, (atL L q).1 = x := ⟨_, rfl⟩
      have HL := Lib.hid (clast_any HC.out.ch (q : Int))
      rw [hwas] at HL
      obtain ⟨ok, L', hp⟩ : ∃ b L', putS L cl tm rs = (b, L') := ⟨_, _, rfl⟩
      have HP := Lib.hid (cput_any HC.out.drew.ch cl tm rs)
      have HPT := Lib.hid (fun (wz : World) (hc : Ch wz cb g c L') (ht : Turn (fun j => j = g) wr.drew wz) => show Rc w cb g c L' wz by have h := Rc.put HC.out.drew (k := cl) (t := tm) (r := rs) (by rw [hp]; exact hc) ht; rwa [hp] at h)
      rw [hp] at HP
      have HWas := Lib.hid hwas
      have HPu := Lib.hid hp
      clear hwas hp
      go_wp2_with fail
      refine HL.out.mono ?_
      rintro e wv ⟨rfl, rfl⟩
      go_wp2_with fail
      have hq1 := HCells.out wr.drew rfl
      go_region_held3 (fun w' => w'.cell? ⟨(ad.add (k * 4)).block, (ad.add (k * 4)).off + 1, none⟩ = some (.int .i64 cl) ∧ w'.cell? ⟨(ad.add (k * 4)).block, (ad.add (k * 4)).off + 2, none⟩ = some (.int .i64 tm) ∧ w'.cell? ⟨(ad.add (k * 4)).block, (ad.add (k * 4)).off + 3, none⟩ = some (.int .i64 rs)) (first | exact hq1 | exact hq2 | go_keep) ((go_at_call 8; refine HP.out.mono ?_; rintro e w2 ⟨rfl, hC2, ht2⟩; have hq2 := HCells.out w2 (ht2.block _ HNE.out.1 HNE.out.2)))
      have HC2 := Lib.hid (HPT.out _ hC2 ht2)
      have HCell2 := Lib.hid hq2
      have HL0 := Lib.hid HC.out.late
      clear hC2 ht2 hq1 hq2 HC HP HPT HCells HNE
      obtain ⟨now, hnow⟩ : ∃ x, (atL L' q).1 = x := ⟨_, rfl⟩
      have HL2 := Lib.hid (clast_any HC2.out.ch (q : Int))
      rw [hnow] at HL2
      have HNow := Lib.hid hnow
      clear hnow
      go_wp2_with fail
      refine HL2.out.mono ?_
      rintro e wv ⟨rfl, rfl⟩
      cases ok
      · obtain rfl := putS_no HPu.out
        obtain rfl : was = now := HWas.out.symm.trans HNow.out
        have g1 : decide (was < was) = false := by simp
        have g2 : (was != was) = false := by simp
        go_wp2_with fail
        go_roundw
        case rel => exact ⟨k + 1, L', by go_num, by omega, by omega, HC2⟩
        case measure => simp [intOf]; omega
      ·
        have HT := Lib.hid (putS_yes HPu.out)
        have HTm := Lib.hid (show 1 ≤ tm ∧ tm ≤ 9223372036854775807 from ⟨by have := HT.out.1; have := HL0.out cl; omega, (wf_i64 HFx.out.tm).2⟩)
        have ha : atL L' cl = (tm, rs) := by rw [HT.out.2, if_pos rfl]
        have hga : getS L' cl tm = (rs, true) := by unfold getS; rw [ha, if_pos ⟨by have := HTm.out; omega, rfl⟩]
        have hgb : getS L' cl (tm - 1) = (0, false) := by unfold getS; rw [ha, if_neg (fun h => by have h2 : tm - 1 = tm := h.2; omega)]
        have HG1 := Lib.hid (fun n => (cget_any (HC2.out.drewN n).ch cl tm).mono (R' := fun e w' => e = .returned (.tuple #[.int .i64 rs, .bool true]) ∧ w' = w2.drewN n) (fun e w' he => by
          rw [hga] at he
          exact ⟨he.1, he.2.symm⟩))
        have HG2 := Lib.hid (fun n => (cget_any (HC2.out.drewN n).ch cl (tm - 1)).mono (R' := fun e w' => e = .returned (.tuple #[.int .i64 0, .bool false]) ∧ w' = w2.drewN n) (fun e w' he => by
          rw [hgb] at he
          exact ⟨he.1, he.2.symm⟩))
        have hw65 : wrap64 (tm - 1) = tm - 1 := by have := HTm.out; unfold wrap64; omega
        have hw64 : IntKind.i64.wrap (tm - 1) = tm - 1 := IntWalk.i64_in _ ⟨by have := HTm.out; omega, by have := HTm.out; omega⟩
        have d1 := fun (n : Nat) => (show (w2.drewN n).cell? ⟨(ad.add (k * 4)).block, (ad.add (k * 4)).off + 1, none⟩ = some (.int .i64 cl) from HCell2.out.1)
        have d2 := fun (n : Nat) => (show (w2.drewN n).cell? ⟨(ad.add (k * 4)).block, (ad.add (k * 4)).off + 2, none⟩ = some (.int .i64 tm) from HCell2.out.2.1)
        have d3 := fun (n : Nat) => (show (w2.drewN n).cell? ⟨(ad.add (k * 4)).block, (ad.add (k * 4)).off + 3, none⟩ = some (.int .i64 rs) from HCell2.out.2.2)
        have e1 : w2.cell? ⟨(ad.add (k * 4)).block, (ad.add (k * 4)).off + 1, none⟩ = some (.int .i64 cl) := HCell2.out.1
        clear ha hga hgb
        by_cases hcl : cl = (q : Int)
        · have hnw : now = tm := by rw [← HNow.out, HT.out.2, if_pos hcl.symm]
          have hws : was < tm := by rw [← HWas.out, ← hcl]; exact HT.out.1
          have g0 : (cl == (q : Int)) = true := by simp [hcl]
          have g1 : decide (now < was) = false := decide_eq_false (by omega)
          have g2 : (now != was) = true := by simp; omega
          clear hnw hws hcl
          go_wp2_with fail
          go_quiet ((go_at_call 9; exact Calls.quiet_of_same (HG1.out _)))
          have f1 := fun (n : Nat) => (show ((w2.drewN nq).drewN n).cell? ⟨(ad.add (k * 4)).block, (ad.add (k * 4)).off + 1, none⟩ = some (.int .i64 cl) from HCell2.out.1)
          have f2 := fun (n : Nat) => (show ((w2.drewN nq).drewN n).cell? ⟨(ad.add (k * 4)).block, (ad.add (k * 4)).off + 2, none⟩ = some (.int .i64 tm) from HCell2.out.2.1)
          go_wp2_with fail
          go_quiet ((go_at_call 9; exact (HG2.out _).mono (fun e w' he => ⟨he.1, _, he.2⟩)))
          go_wp2_with fail
          go_roundw
          case rel => exact ⟨k + 1, L', by go_num, by omega, by omega, Lib.hid (HC2.out.drewN _)⟩
          case measure => simp [intOf]; omega
        · have hnw : now = was := by rw [← HNow.out, HT.out.2, if_neg (fun e => hcl e.symm), HWas.out]
          have g0 : (cl == (q : Int)) = false := by simp [hcl]
          have g1 : decide (now < was) = false := decide_eq_false (by omega)
          have g2 : (now != was) = false := by simp [hnw]
          clear hnw hcl
          go_wp2_with fail
          go_quiet ((go_at_call 9; exact Calls.quiet_of_same (HG1.out _)))
          have f1 := fun (n : Nat) => (show ((w2.drewN nq).drewN n).cell? ⟨(ad.add (k * 4)).block, (ad.add (k * 4)).off + 1, none⟩ = some (.int .i64 cl) from HCell2.out.1)
          have f2 := fun (n : Nat) => (show ((w2.drewN nq).drewN n).cell? ⟨(ad.add (k * 4)).block, (ad.add (k * 4)).off + 2, none⟩ = some (.int .i64 tm) from HCell2.out.2.1)
          go_wp2_with fail
          go_quiet ((go_at_call 9; exact (HG2.out _).mono (fun e w' he => ⟨he.1, _, he.2⟩)))
          go_wp2_with fail
          go_roundw
          case rel => exact ⟨k + 1, L', by go_num, by omega, by omega, Lib.hid (HC2.out.drewN _)⟩
          case measure => simp [intOf]; omega
    · have g1 : (decide ((k : Int) < (n : Int)) && decide ((k : Int) < 100)) = false := by simp; omega
      by_cases hk1 : k < n
      · go_wp2_with fail
        refine (wakes11_any _).mono ?_
        rintro e w9 ⟨rfl, hb9⟩
        go_wp2_with fail
        go_ret
        exact ⟨rfl, (HC.out.below hb9).low⟩
      · go_wp2_with fail
        refine (wakes11_any _).mono ?_
        rintro e w9 ⟨rfl, hb9⟩
        go_wp2_with fail
        go_ret
        exact ⟨rfl, (HC.out.below hb9).low⟩
end Go.Proofs.Ytibpleemclokiaa
