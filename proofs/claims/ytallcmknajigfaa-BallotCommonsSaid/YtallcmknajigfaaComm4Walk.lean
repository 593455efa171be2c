/- The walk of BallotCommons: it returns true for any f and any ints. (Asks for the contracts of Rising and Common as RowLaws.) -/
import Derived.Test.YtallcmknajigfaaComm4
import Derived.Test.YtallcmknajigfaaNext4Walk
import Derived.Deep.DeepCutAuto
import Derived.Deep.CutBlock
namespace Go.Proofs.Ytallcmknajigfaa
open Go.RowKit

/-- What the walks ask of Rising and Common. -/
structure RowLaws : Prop where
  rising : ∀ {w : World} {B n c : Nat} {A : Option Addr} {l : List Vt}, Has w B A (voteCells l) → l.length = n → n ≤ maxLen → ∀ f : Int, Calls Try.prog 24 #[.slice A n c, .int .i64 f] w fun e w' => e = .returned (.bool (risingS l f)) ∧ Below w.heap.size w w'
  common : ∀ {w : World} {B n c B2 n2 c2 : Nat} {A A2 : Option Addr} {a b : List Vt}, Has w B A (voteCells a) → a.length = n → n ≤ 1000000 → Has w B2 A2 (voteCells b) → b.length = n2 → n2 ≤ 1000000 → (∀ v ∈ a, 0 ≤ v.nd ∧ v.nd < 13) → (∀ v ∈ b, 0 ≤ v.nd ∧ v.nd < 13) →
    Calls Try.prog 34 #[.slice A n c, .slice A2 n2 c2] w fun e w' => ∃ v, e = .returned v ∧ w'.ownsRow w.heap.size 3 1 v (commonS a b).length (intCells (commonS a b)) ∧ Below w.heap.size w w'
set_option maxHeartbeats 4000000 in
set_option maxRecDepth 100000 in
theorem ballotCommons_walk (S : RowLaws) (f : Int) (A : Option Addr) (c : Nat) (l : List Int) (A2 : Option Addr) (c2 : Nat) (l2 : List Int) (w : World) (w0 : (Lit.int .i64 f).wf = true) (w1 : IsList .i64 w A l c) (w2 : IsList .i64 w A2 l2 c2) :
    Calls Try.prog 9 #[.int .i64 f, .slice A l.length c, .slice A2 l2.length c2] w fun e w' => e = .returned (.bool true) ∧ Below w.heap.size w w' := by
  obtain ⟨q, hq, hq4⟩ := mod_four f
  have HW1 := Lib.hid (fun w => within_any f 4 (by omega) (by omega) (wf_i64 w0).1 (wf_i64 w0).2 w)
  rw [hq] at HW1
  obtain ⟨F, hF⟩ : ∃ F : Nat, q + 1 = F := ⟨_, rfl⟩
  have hF1 : 1 ≤ F := by omega
  have hF2 : F ≤ 4 := by omega
  have hFq : 1 + (q : Int) = F := by omega
  have G1 := Lib.hid (bweak_any (F : Int))
  rw [weakS_in (by omega) (by omega)] at G1
  have HS := Lib.hid S
  have HRow := Lib.hid (row_any (c := c) hF1 hF2 w1.has (Nat.le_refl _) w1.fits (Nat.le_trans w1.le w1.most))
  have HLB := Lib.hid w2
  clear hq w0 S w1 w2
  go_enter Try.func9, Try.ntmps9
  go_wp2_with fail
  refine (HW1.out _).mono ?_
  rintro e w' ⟨rfl, rfl⟩
  go_wp2_with fail
  refine HRow.out.mono ?_
  rintro e w3 ⟨v, xs, rfl, hox, hrx, hb3⟩
  obtain ⟨Ax, cx, hv, _, _⟩ := own_slice hox
  subst hv
  have HX := Lib.hid (has_rows hox)
  have HRx := Lib.hid hrx
  have HB3 := Lib.hid hb3
  have HRow2 := Lib.hid (row_any (c := c2) hF1 hF2 (HLB.out.has.below hb3 (Nat.le_refl _)) hb3.size HLB.out.fits (Nat.le_trans HLB.out.le HLB.out.most))
  clear hox hrx hb3
  go_wp2_with fail
  refine HRow2.out.mono ?_
  rintro e w4 ⟨v, ys, rfl, hoy, hry, hb4⟩
  obtain ⟨Ay, cy, hv, _, _⟩ := own_slice hoy
  subst hv
  have HX4 := Lib.hid (HX.out.below hb4 (Nat.le_refl _))
  have HY4 := Lib.hid (has_rows hoy)
  have HRy := Lib.hid hry
  have HB4 := Lib.hid (HB3.out.trans (hb4.mono HB3.out.size))
  have HSz := Lib.hid hb4.size
  have HIx := Lib.hid (RowIs.of HRx.out)
  have HIy := Lib.hid (RowIs.of hry)
  obtain ⟨n, hn⟩ : ∃ n, 2 * F + 1 = n := ⟨_, rfl⟩
  have hn9 : n ≤ 9 := by omega
  have HLx := Lib.hid (show xs.length = n by rw [HIx.out.len, hn])
  have HLy := Lib.hid (show ys.length = n by rw [HIy.out.len, hn])
  have HMx := Lib.hid (show n ≤ maxLen by unfold maxLen; omega)
  rw [HLx.out, HLy.out]
  have HC := Lib.hid (HS.out.common (c := cx) (c2 := cy) HX4.out HLx.out (by omega) HY4.out HLy.out (by omega) (fun v hv => by have := HIx.out.low v hv; omega) (fun v hv => by have := HIy.out.low v hv; omega))
  clear hoy hry hb4 HX HB3
  go_wp2_with fail
  refine HC.out.mono ?_
  rintro e w5 ⟨v, rfl, hoc, hb5⟩
  obtain ⟨Ac, cc, hv, _, _⟩ := own_slice hoc
  subst hv
  have HCv := Lib.hid (Has.own hoc)
  have HX5 := Lib.hid (HX4.out.below hb5 HSz.out)
  have HY5 := Lib.hid (HY4.out.below hb5 (Nat.le_refl _))
  have HB5 := Lib.hid (HB4.out.trans (hb5.mono HB4.out.size))
  have HSz5 := Lib.hid hb5.size
  have HLc := Lib.hid (common_most xs ys)
  have HMc := Lib.hid (common_many hF2 HIx.out HIy.out)
  obtain ⟨cs, hcs⟩ : ∃ cs, commonS xs ys = cs := ⟨_, rfl⟩
  rw [hcs] at HCv HLc HMc ⊢
  have HCs := Lib.hid hcs
  clear hcs hoc hb5 HX4 HB4
  have hlc := HLc.out
  have hmc := HMc.out
  go_wp2_with fail
  go_loopw [28] (fun y wl => ∃ (i m : Nat), y = .int .i64 i ∧ i ≤ cs.length ∧ Hid (wl = w5.drewN m)) (fun y _ => cs.length - (intOf y).toNat)
  case atStart => exact ⟨0, 0, rfl, Nat.zero_le _, rfl⟩
  case round =>
    obtain ⟨i, m, rfl, hi, HW⟩ := hrel
    by_cases hil : i < cs.length
    · obtain ⟨z, hz⟩ : ∃ z, cs[i]? = some z := ⟨_, List.getElem?_eq_getElem hil⟩
      obtain ⟨hzx, hzy⟩ := common_get (x := xs) (y := ys) (j := i) (z := z) (by rw [HCs.out]; exact hz)
      have HHx := Lib.hid (hits_one HIx.out.up hzx)
      have HHy := Lib.hid (hits_one HIy.out.up hzy)
      obtain ⟨ac, hac, _, c0⟩ := HCv.out i (.int .i64 z) (by simp [intCells, hz])
      subst hac
      have HC0 := Lib.hid c0
      have HZ := Lib.hid hz
      clear hzx hzy c0 hz
      go_wp2_with fail
      go_loopw [11, 33] (fun a b wl => ∃ (k h m : Nat), b = .int .i64 k ∧ a = .int .i64 h ∧ k ≤ n ∧ h ≤ k ∧ Hid (hits (xs.take k) z = h) ∧ Hid (wl = w5.drewN m)) (fun _ b _ => n - (intOf b).toNat)
      case atStart => exact ⟨0, 0, m, rfl, rfl, Nat.zero_le _, Nat.le_refl _, (show _ = _ by simp [hits]), HW.out⟩
      case round =>
        obtain ⟨k, h, m1, rfl, rfl, hk, hh, HH, HW1⟩ := hrel
        by_cases hkn : k < n
        · have hkx : k < xs.length := by rw [HLx.out]; exact hkn
          have hHv : Has wr w3.heap.size Ax (voteCells xs) := by rw [HW1.out]; exact HX5.out.drewN m1
          have c0 : wr.cell? (ac.add i) = some (.int .i64 z) := by rw [HW1.out]; exact HC0.out
          obtain ⟨ad, rfl, _, c1, csg⟩ := vote_at hHv hkx
          obtain ⟨v, hv⟩ : ∃ v, xs[k] = v := ⟨_, rfl⟩
          rw [hv] at c1
          have hN := hits_next (show xs[k]? = some v by rw [List.getElem?_eq_getElem hkx, hv]) z
          have HN := Lib.hid hN
          clear hHv csg hv hN hkx
          obtain ⟨p, hp⟩ : ∃ p, v.nd = p := ⟨_, rfl⟩
          rw [hp] at c1 HN
          clear hp
          by_cases hpz : p = z
          · subst hpz
            have HN2 := Lib.hid (HN.out.trans (by rw [if_pos rfl]))
            clear HN
            go_wp2_with fail
            go_quiet (fail)
            go_wp2_with fail
            go_roundw
            case rel => exact ⟨k + 1, h + 1, m1 + nq, by go_num, by go_num, by omega, by omega, (show _ = _ by rw [HN2.out, HH.out]), (show _ = _ by rw [HW1.out, World.drewN_drewN])⟩
            case measure => simp [intOf]; omega
          · have HN2 := Lib.hid (HN.out.trans (by rw [if_neg hpz, Nat.add_zero]))
            have t1 : (p == z) = false := by simpa using hpz
            clear HN hpz
            go_wp2_with fail
            go_quiet (fail)
            go_wp2_with fail
            go_roundw
            case rel => exact ⟨k + 1, h, m1 + nq, by go_num, rfl, by omega, by omega, (show _ = _ by rw [HN2.out, HH.out]), (show _ = _ by rw [HW1.out, World.drewN_drewN])⟩
            case measure => simp [intOf]; omega
        · obtain rfl : n = k := by omega
          obtain rfl : h = 1 := by
            have h1 := HH.out
            rw [List.take_of_length_le (Nat.le_of_eq HLx.out), HHx.out] at h1
            omega
          go_wp2_with fail
          go_loopw [11, 51] (fun a b wl => ∃ (k h m : Nat), b = .int .i64 k ∧ a = .int .i64 h ∧ k ≤ n ∧ h ≤ k + 1 ∧ Hid (hits (ys.take k) z + 1 = h) ∧ Hid (wl = w5.drewN m)) (fun _ b _ => n - (intOf b).toNat)
          case atStart => exact ⟨0, 1, m1, rfl, rfl, Nat.zero_le _, Nat.le_refl _, (show _ = _ by simp [hits]), HW1.out⟩
          case round =>
            obtain ⟨k, h, m2, rfl, rfl, hk, hh, HH, HW2⟩ := hrel
            by_cases hkn : k < n
            · have hkx : k < ys.length := by rw [HLy.out]; exact hkn
              have hHv : Has wr w4.heap.size Ay (voteCells ys) := by rw [HW2.out]; exact HY5.out.drewN m2
              have c0 : wr.cell? (ac.add i) = some (.int .i64 z) := by rw [HW2.out]; exact HC0.out
              obtain ⟨ad, rfl, _, c1, csg⟩ := vote_at hHv hkx
              obtain ⟨v, hv⟩ : ∃ v, ys[k] = v := ⟨_, rfl⟩
              rw [hv] at c1
              have hN := hits_next (show ys[k]? = some v by rw [List.getElem?_eq_getElem hkx, hv]) z
              have HN := Lib.hid hN
              clear hHv csg hv hN hkx
              obtain ⟨p, hp⟩ : ∃ p, v.nd = p := ⟨_, rfl⟩
              rw [hp] at c1 HN
              clear hp
              by_cases hpz : p = z
              · subst hpz
                have HN2 := Lib.hid (HN.out.trans (by rw [if_pos rfl]))
                clear HN
                go_wp2_with fail
                go_quiet (fail)
                go_wp2_with fail
                go_roundw
                case rel => exact ⟨k + 1, h + 1, m2 + nq, by go_num, by go_num, by omega, by omega, (show _ = _ by rw [HN2.out]; have := HH.out; omega), (show _ = _ by rw [HW2.out, World.drewN_drewN])⟩
                case measure => simp [intOf]; omega
              · have HN2 := Lib.hid (HN.out.trans (by rw [if_neg hpz, Nat.add_zero]))
                have t1 : (p == z) = false := by simpa using hpz
                clear HN hpz
                go_wp2_with fail
                go_quiet (fail)
                go_wp2_with fail
                go_roundw
                case rel => exact ⟨k + 1, h, m2 + nq, by go_num, rfl, by omega, by omega, (show _ = _ by rw [HN2.out]; exact HH.out), (show _ = _ by rw [HW2.out, World.drewN_drewN])⟩
                case measure => simp [intOf]; omega
            · obtain rfl : n = k := by omega
              obtain rfl : h = 2 := by
                have h1 := HH.out
                rw [List.take_of_length_le (Nat.le_of_eq HLy.out), HHy.out] at h1
                omega
              have c0 : wr.cell? (ac.add i) = some (.int .i64 z) := by rw [HW2.out]; exact HC0.out
              by_cases hi0 : i = 0
              · have tk : decide (0 < i) = false := decide_eq_false (by omega)
                clear hi0
                go_wp2_with fail
                go_quiet (fail)
                go_wp2_with fail
                go_roundw
                case rel => exact ⟨i + 1, m2 + nq, by go_num, by omega, (show _ = _ by rw [HW2.out, World.drewN_drewN])⟩
                case measure => simp [intOf]; omega
              · obtain ⟨i1, hi1⟩ : ∃ i1, i - 1 = i1 := ⟨_, rfl⟩
                have hi2 : (i : Int) - 1 = (i1 : Int) := by omega
                obtain ⟨y, hy⟩ : ∃ y, cs[i1]? = some y := ⟨_, List.getElem?_eq_getElem (by omega)⟩
                obtain ⟨ax', he, _, c1⟩ := HCv.out i1 (.int .i64 y) (by simp [intCells, hy])
                cases he
                have c1 : wr.cell? (ac.add i1) = some (.int .i64 y) := by rw [HW2.out]; exact c1
                have t3 : decide (z ≤ y) = false := decide_eq_false (by
                  have h1 := HZ.out
                  rw [← HCs.out] at h1 hy
                  have := common_rise (by omega) hy h1
                  omega)
                have tk : decide (0 < i) = true := decide_eq_true (by omega)
                have hi1c : i1 < cs.length := by omega
                clear hi0 hy hi1
                go_wp2_with fail
                go_quiet (fail)
                go_wp2_with fail
                go_roundw
                case rel => exact ⟨i + 1, m2 + nq, by go_num, by omega, (show _ = _ by rw [HW2.out, World.drewN_drewN])⟩
                case measure => simp [intOf]; omega
    · obtain rfl : i = cs.length := by omega
      have HE1 := Lib.hid (HS.out.rising (c := cx) (show Has wr w3.heap.size Ax (voteCells xs) by rw [HW.out]; exact HX5.out.drewN m) HLx.out HMx.out (F : Int))
      rw [HRx.out] at HE1
      have HY6 := Lib.hid (show Has wr w4.heap.size Ay (voteCells ys) by rw [HW.out]; exact HY5.out.drewN m)
      have HS6 := Lib.hid (show w4.heap.size ≤ wr.heap.size by rw [HW.out]; exact HSz5.out)
      have HB6 := Lib.hid (show Below w.heap.size w wr by rw [HW.out]; exact HB5.out.trans ⟨rfl, rfl, rfl, Nat.le_refl _, fun _ _ => rfl⟩)
      go_wp2_with fail
      refine HE1.out.mono ?_
      rintro e w7 ⟨rfl, hb7⟩
      have HE2 := Lib.hid (HS.out.rising (c := cy) (HY6.out.below hb7 HS6.out) HLy.out HMx.out (F : Int))
      rw [HRy.out] at HE2
      have HB7 := Lib.hid (HB6.out.trans (hb7.mono HB6.out.size))
      clear hb7
      go_wp2_with fail
      refine HE2.out.mono ?_
      rintro e w8 ⟨rfl, hb8⟩
      have HB8 := Lib.hid (HB7.out.trans (hb8.mono HB7.out.size))
      clear hb8
      go_wp2_with fail
      refine (G1.out _).mono ?_
      rintro e w' ⟨rfl, rfl⟩
      go_wp2_with fail
      refine (wakesB_any _).mono ?_
      rintro e w' ⟨rfl, rfl⟩
      go_wp2_with fail
      go_ret
      exact ⟨rfl, HB8.out⟩
end Go.Proofs.Ytallcmknajigfaa
