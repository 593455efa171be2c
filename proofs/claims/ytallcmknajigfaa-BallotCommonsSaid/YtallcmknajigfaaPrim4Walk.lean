/- The walk of BallotPrimaries: it returns true for any two ints. (Asks a set's four contracts as SetLaws.) -/
import Derived.Test.YtallcmknajigfaaBallot
import Derived.Test.YtallcmknajigfaaNext4Walk
namespace Go.Proofs.Ytallcmknajigfaa
open Go.RowKit

def allS (bs : List Bool) : List Int := List.map (fun k : Nat => (k : Int)) (List.filter (fun k : Nat => marked bs (k : Int)) (List.range 13))
def intCells (l : List Int) : List Value := l.map (Value.int .i64)
/-- What the walks ask of a set. -/
structure SetLaws : Prop where
  put : ∀ {w : World} {g : Nat} {bs : List Bool}, SetIs w g bs → ∀ k : Int, Calls Try.prog 19 #[.pointer (some ⟨g, 0, none⟩), .int .i64 k] w fun e w' => e = .returned (.bool (decide (0 ≤ k ∧ k < 13) && !marked bs k)) ∧ SetIs w' g (putS bs k) ∧ Only g w w'
  has : ∀ {w : World} {g : Nat} {bs : List Bool}, SetIs w g bs → ∀ k : Int, Calls Try.prog 32 #[.pointer (some ⟨g, 0, none⟩), .int .i64 k] w fun e w' => e = .returned (.bool (marked bs k)) ∧ ∃ m, w' = w.drewN m
  len : ∀ {w : World} {g : Nat} {bs : List Bool}, SetIs w g bs → Calls Try.prog 31 #[.pointer (some ⟨g, 0, none⟩)] w fun e w' => e = .returned (.int .i64 (cnt bs)) ∧ ∃ m, w' = w.drewN m
  all : ∀ {w : World} {g : Nat} {bs : List Bool}, SetIs w g bs → Calls Try.prog 21 #[.pointer (some ⟨g, 0, none⟩)] w fun e w' => ∃ v, e = .returned v ∧ w'.ownsRow w.heap.size 3 1 v (allS bs).length (intCells (allS bs)) ∧ Below w.heap.size w w'
theorem mod_ne {a b n : Int} (h1 : a < b) (h2 : b - a < n) : a % n ≠ b % n := by
  intro h
  have h3 := Int.emod_eq_emod_iff_emod_sub_eq_zero.1 h.symm
  rw [Int.emod_eq_of_lt (by omega) h2] at h3
  omega
theorem marked_nat {bs : List Bool} {k : Nat} (hk : k < 13) : marked bs (k : Int) = (bs[k]? == some true) := by
  unfold marked
  rw [decide_eq_true (by omega : 0 ≤ (k : Int) ∧ (k : Int) < 13)]
  rfl
theorem marked_false {bs : List Bool} (hl : bs.length = 13) {k : Nat} (hk : k < 13) (h : marked bs (k : Int) = false) : bs[k]? = some false := by
  rw [marked_nat hk] at h
  obtain ⟨b, hb⟩ := got (l := bs) (k := k) (by omega)
  rw [hb] at h ⊢
  cases b
  · rfl
  · cases h
theorem put_cnt {bs : List Bool} (hl : bs.length = 13) {k : Int} (hk : 0 ≤ k ∧ k < 13) (h : marked bs k = false) : cnt (putS bs k) = cnt bs + 1 := by
  obtain ⟨n, rfl⟩ := Int.eq_ofNat_of_zero_le hk.1
  unfold putS
  rw [if_pos hk]
  exact cnt_set (marked_false hl (by omega) h)
theorem put_else {bs : List Bool} {k x : Int} (hne : x ≠ k) : marked (putS bs k) x = marked bs x := by
  unfold putS
  split
  · unfold marked
    by_cases hx : 0 ≤ x ∧ x < 13
    · rw [List.getElem?_set_ne (by omega)]
    · rw [decide_eq_false hx]; rfl
  · rfl
theorem putS_len (bs : List Bool) (k : Int) : (putS bs k).length = bs.length := by unfold putS; split <;> simp
theorem none_marked (x : Int) : marked noMarks x = false := by
  unfold marked noMarks
  by_cases hx : 0 ≤ x ∧ x < 13
  · rw [List.getElem?_replicate]; split <;> simp
  · rw [decide_eq_false hx]; rfl

set_option maxHeartbeats 2000000 in
theorem ballotPrimaries_walk (S : SetLaws) (f v : Int) (w : World) (w0 : (Lit.int .i64 f).wf = true) (w1 : (Lit.int .i64 v).wf = true) :
    Calls Try.prog 6 #[.int .i64 f, .int .i64 v] w fun e w' => e = .returned (.bool true) ∧ Below w.heap.size w w' := by
  obtain ⟨q, hq, hq4⟩ := mod_four f
  obtain ⟨a, ha, ha4⟩ := mod_nat v 13 (by omega)
  have HW1 := Lib.hid (fun w => within_any f 4 (by omega) (by omega) (wf_i64 w0).1 (wf_i64 w0).2 w)
  have HW2 := Lib.hid (fun w => within_any v 13 (by omega) (by omega) (wf_i64 w1).1 (wf_i64 w1).2 w)
  rw [hq] at HW1
  rw [ha] at HW2
  obtain ⟨F, hF⟩ : ∃ F : Nat, q + 1 = F := ⟨_, rfl⟩
  have hF1 : 1 ≤ F := by omega
  have hF2 : F ≤ 4 := by omega
  have hFq : 1 + (q : Int) = F := by omega
  have G0 := Lib.hid (bnodes_any (F : Int))
  rw [nodesS_in (by omega) (by omega)] at G0
  have HS := Lib.hid S
  clear hq ha w0 w1 S
  go_enter Try.func6, Try.ntmps6
  go_wp2_with fail
  refine (HW1.out _).mono ?_
  rintro e w' ⟨rfl, rfl⟩
  go_wp2_with fail
  refine (HW2.out _).mono ?_
  rintro e w' ⟨rfl, rfl⟩
  go_wp2_with fail
  obtain ⟨g, hg⟩ : ∃ g, w.heap.size = g := ⟨_, rfl⟩
  have HS0 := Lib.hid (SetIs.new w)
  have HB0 := Lib.hid (show Below w.heap.size w (w.alloc (.cells #[.int .u16 0] 30)) from (Below.refl _ _).alloc (Nat.le_refl _) _)
  have HG := Lib.hid hg
  rw [hg] at HS0 ⊢
  clear hg
  go_loopw [6] (fun x wr => ∃ (i : Nat) (bs : List Bool), x = .int .i64 i ∧ i ≤ F + 1 ∧ Hid (SetIs wr g bs) ∧ Hid (cnt bs = i) ∧ Hid (∀ j : Nat, i ≤ j → j ≤ F → marked bs (((a : Int) + j) % (3 * (F : Int) + 1)) = false) ∧ Hid (Below w.heap.size w wr)) (fun x _ => F + 1 - (intOf x).toNat)
  case atStart => exact ⟨0, noMarks, rfl, Nat.zero_le _, HS0.out, rfl, fun j _ _ => none_marked _, HB0.out⟩
  case round =>
    obtain ⟨i, bs, rfl, hi, HSt, HCn, HMk, HBl⟩ := hrel
    by_cases hlt : i ≤ F
    · obtain ⟨p, hp, hpn⟩ := mod_nat ((a : Int) + i) (3 * (F : Int) + 1) (by omega)
      have G1 := Lib.hid (bprimary_any (F : Int) a i)
      rw [primaryS_in (by omega) (by omega) (by omega) (by omega) (by omega) (by omega), hp] at G1
      have hmk := HMk.out i (Nat.le_refl _) hlt
      rw [hp] at hmk
      have hp13 : (0 : Int) ≤ (p : Int) ∧ (p : Int) < 13 := by omega
      have GP := Lib.hid (HS.out.put HSt.out (p : Int))
      rw [hmk, decide_eq_true hp13] at GP
      have HN2 := Lib.hid (put_cnt HSt.out.len hp13 hmk)
      have HMk2 := Lib.hid (show ∀ j : Nat, i + 1 ≤ j → j ≤ F → marked (putS bs p) (((a : Int) + j) % (3 * (F : Int) + 1)) = false from fun j h1 h2 => by
        have hne := mod_ne (a := (a : Int) + i) (b := (a : Int) + j) (n := 3 * (F : Int) + 1) (by omega) (by omega)
        rw [put_else (fun e => hne (by rw [hp, e]))]
        exact HMk.out j (by omega) h2)
      obtain ⟨p0, hp0⟩ : ∃ p0, ((a : Int) - 1 + i) % (3 * (F : Int) + 1) = p0 := ⟨_, rfl⟩
      have hne0 : (p0 == (p : Int)) = false := by
        rw [beq_eq_false_iff_ne, ← hp0, ← hp]
        exact mod_ne (by omega) (by omega)
      have G2 := Lib.hid (show 0 < a → ∀ w, Calls Try.prog 17 #[.int .i64 F, .int .i64 ((a : Int) - 1), .int .i64 i] w fun e w' => e = .returned (.int .i64 p0) ∧ w = w' from fun h w => by
        have h1 := bprimary_any (F : Int) ((a : Int) - 1) i w
        rw [primaryS_in (by omega) (by omega) (by omega) (by omega) (by omega) (by omega), hp0] at h1
        exact h1)
      have hpp : 0 ≤ (p : Int) := hp13.1
      clear hp hmk hp0 hp13
      go_wp2_with fail
      refine (G1.out _).mono ?_
      rintro e w' ⟨rfl, rfl⟩
      go_wp2_with fail
      refine (G0.out _).mono ?_
      rintro e w' ⟨rfl, rfl⟩
      go_wp2_with fail
      refine GP.out.mono ?_
      rintro e w2 ⟨rfl, hs2, ho2⟩
      have HS2 := Lib.hid hs2
      have HB2 := Lib.hid (HBl.out.trans (ho2.below (B := w.heap.size) (Nat.le_of_eq HG.out) HBl.out.size))
      clear hs2 ho2
      by_cases ha0 : 0 < a
      · go_wp2_with fail
        refine (G2.out ha0 _).mono ?_
        rintro e w' ⟨rfl, rfl⟩
        go_wp2_with fail
        go_roundw
        case rel => exact ⟨i + 1, _, by go_num, by omega, HS2.out, (show _ = _ by rw [HN2.out, HCn.out]), HMk2.out, HB2.out⟩
        case measure => simp [intOf]; omega
      · go_wp2_with fail
        go_roundw
        case rel => exact ⟨i + 1, _, by go_num, by omega, HS2.out, (show _ = _ by rw [HN2.out, HCn.out]), HMk2.out, HB2.out⟩
        case measure => simp [intOf]; omega
    · obtain rfl : i = F + 1 := by omega
      have GL := Lib.hid (HS.out.len HSt.out)
      rw [HCn.out] at GL
      go_wp2_with fail
      refine GL.out.mono ?_
      rintro e w2 ⟨rfl, m2, rfl⟩
      go_wp2_with fail
      refine (wakesB_any _).mono ?_
      rintro e w' ⟨rfl, rfl⟩
      go_wp2_with fail
      go_ret
      exact ⟨rfl, HBl.out.trans ⟨rfl, rfl, rfl, Nat.le_refl _, fun _ _ => rfl⟩⟩
end Go.Proofs.Ytallcmknajigfaa
