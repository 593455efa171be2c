/- The walk of CodeMixed: it returns true for any ints. -/
import Derived.Test.YtfjgcpeaghlcgaaRowsWalk
import Derived.Test.YtfjgcpeaghlcgaaTakesWalk
namespace Go.Proofs.Ytfjgcpeaghlcgaa
open Go.RowKit

/-- The number that is told at place i by what is written there. -/
def val (i m : Nat) : Int := if i % 2 = 0 then (m : Int) else zagS m
def vals : Nat → List Nat → List Int
  | _, [] => []
  | i, m :: r => val i m :: vals (i + 1) r
theorem vals_app (l : List Nat) (m : Nat) : ∀ i, vals i (l ++ [m]) = vals i l ++ [val (i + l.length) m] := by
  induction l with
  | nil => intro i; rfl
  | cons a l ih =>
    intro i
    show val i a :: vals (i + 1) (l ++ [m]) = _
    rw [ih (i + 1), List.length_cons, show i + 1 + l.length = i + (l.length + 1) by omega]
    rfl
theorem vals_get (l : List Nat) : ∀ i j m r, l.drop j = m :: r → (vals i l)[j]? = some (val (i + j) m) := by
  induction l with
  | nil => intro i j m r h; simp at h
  | cons a l ih =>
    intro i j m r h
    cases j with
    | zero =>
      injection h with h _
      subst h; rfl
    | succ j =>
      have := ih (i + 1) j m r (by simpa using h)
      rw [show i + (j + 1) = i + 1 + j by omega]
      exact this
def ints (l : List Int) : List Value := l.map (Value.int .i64)
theorem ints_app (l : List Int) (x : Int) : ints (l ++ [x]) = ints l ++ [Value.int .i64 x] := by simp [ints]
theorem vals_at {w : World} {B : Nat} {A : Option Addr} {ns r : List Nat} {j m : Nat} (h : Has w B A (ints (vals 0 ns))) (hd : ns.drop j = m :: r) : ∃ ad, A = some ad ∧ w.cell? (ad.add j) = some (.int .i64 (val j m)) := by
  have h1 := vals_get ns 0 j m r hd
  rw [Nat.zero_add] at h1
  obtain ⟨ad, hA, _, hc⟩ := h j (.int .i64 (val j m)) (by unfold ints; rw [List.getElem?_map, h1]; rfl)
  exact ⟨ad, hA, hc⟩
theorem val_even {k m : Nat} (h : k % 2 = 0) : val k m = m := by unfold val; rw [if_pos h]
theorem val_odd {k : Nat} {n : Int} (h : ¬ k % 2 = 0) (h1 : -549755813888 ≤ n) (h2 : n < 549755813888) : val k (zigS n).toNat = n := by
  have := zigS_in h1 h2
  unfold val; rw [if_neg h, show (((zigS n).toNat : Nat) : Int) = zigS n by omega, zagS_zig h1 h2]
theorem enc_six {m : Nat} (hm : m < 1099511627776) : (enc m).length ≤ 6 := enc_len 5 m (by omega)
theorem zigS_nat {n : Int} (h1 : -549755813888 ≤ n) (h2 : n < 549755813888) : (zigS n).toNat < 1099511627776 := by
  have := zigS_in h1 h2; omega
/-- A row from a later block on is one from an earlier block on. -/
theorem own_base {w : World} {b b' n : Nat} {e : TypeId} {size : Nat} {v : Value} {xs : List Value} (h : w.ownsRow b e size v n xs) (hb : b' ≤ b) : w.ownsRow b' e size v n xs := by
  refine ⟨h.1, ?_⟩
  rcases h.2 with h2 | ⟨g, cap, cur, hv, hg, r⟩
  · exact Or.inl h2
  · exact Or.inr ⟨g, cap, cur, hv, Nat.le_trans hb hg, r⟩
/-- Signed, where its answer is thrown away. -/
theorem signum_some (n : Int) (w : World) : Calls Try.prog 15 #[.int .i64 n] w fun e w' => ∃ v b, e = .returned (.tuple #[v, .bool b]) ∧ Below w.heap.size w w' := by
  by_cases h : -549755813888 ≤ n ∧ n < 549755813888
  · exact (signum_row n h.1 h.2 w).mono fun e w' ⟨g, c, he, _, hb⟩ => ⟨_, _, he, hb⟩
  · exact (signum_none n (by omega) w).mono fun e w' ⟨he, hw⟩ => ⟨_, _, he, by subst hw; exact Below.refl _ _⟩

/-- What holds at the head of the first loop. -/
def MixRel (w : World) (len : Nat) (vb vw x : Value) (wr : World) : Prop :=
  ∃ (k : Nat) (ns : List Nat), x = .int .i64 k ∧ k ≤ len ∧ k ≤ 40 ∧ ns.length = k ∧ (∀ m ∈ ns, m < 1099511627776) ∧
    wr.ownsRow w.heap.size 5 1 vb (flat ns).length (u8s (flat ns)) ∧ wr.ownsRow w.heap.size 3 1 vw ns.length (ints (vals 0 ns)) ∧ Below w.heap.size w wr

set_option maxHeartbeats 2000000 in
set_option maxRecDepth 100000 in
theorem codeMixed_walk (A : Option Addr) (c : Nat) (zs : List Int) (w : World) (w0 : IsList .i64 w A zs c) :
    Calls Try.prog 4 #[.slice A zs.length c] w fun e w' => e = .returned (.bool true) ∧ Below w.heap.size w w' := by
  have hcap := w0.le
  have hmost := w0.most
  unfold maxLen at hmost
  have HH := Lib.hid w0.has
  clear w0
  obtain ⟨i0, hi, hz0, hz1, hz2⟩ := info_parts Try.info5
  obtain ⟨i1, hj, hy0, hy1, hy2⟩ := info_parts Try.info3
  go_enter Try.func4, Try.ntmps4
  go_wp2_with fail
  go_loopw [3, 4, 5] (fun vb vw x wr => MixRel w zs.length vb vw x wr) (fun _ _ x _ => 40 - (intOf x).toNat)
  case atStart => exact ⟨0, [], rfl, Nat.zero_le _, Nat.zero_le _, rfl, by simp, World.ownsRow_nil _ _ _ _, World.ownsRow_nil _ _ _ _, Below.refl _ _⟩
  case round =>
    obtain ⟨k, ns, rfl, hk, hk60, hns, hall, hown, howt, hb⟩ := hrel
    have hfl := flat_len ns hall
    have hns2 : ns.length ≤ k := by omega
    have HALL := Lib.hid hall
    have HK := Lib.hid hns
    clear hall hns
    by_cases hlt : k < zs.length ∧ k < 40
    · obtain ⟨h1, h2⟩ := hlt
      obtain ⟨ad, z, rfl, hblk, hc, _, _⟩ := (HH.out.below hb (Nat.le_refl _)).int h1
      clear hblk
      by_cases hpar : k % 2 = 0
      · have hp : (k : Int) % 2 = 0 := by omega
        by_cases hz : 0 ≤ z ∧ z < 1099511627776
        · obtain ⟨m, rfl⟩ := Int.eq_ofNat_of_zero_le hz.1
          have hm : m < 1099511627776 := by omega
          have hel := enc_six hm
          have HN := Lib.hid (val_even (m := m) hpar)
          clear hz hpar
          go_wp2_with fail
          refine (signum_some m _).mono ?_
          rintro e wa ⟨va, ba, rfl, hba⟩
          go_wp2_with fail
          refine (number_row m hm _).mono ?_
          rintro e w1 ⟨g, cc, rfl, ho, hbn⟩
          have hbx := hba.trans (hbn.mono hba.size)
          have ho := own_base ho hba.size

          have hgrow1 := hbx.size
          have hown1 := below_own hown hbx (Nat.le_refl _)
          have howt1 := below_own howt hbx (Nat.le_refl _)
          have hb2 := hb.trans (hbx.mono hb.size)
          have HO := Lib.hid (Has.own ho)
          clear ho hown howt
          go_wp2_with (at_builtin; refine wpList_app rfl (.tmp 57) (.tmp 58) 26 rfl w.heap.size 5 i0 (.int .u8 0) 1 Try.underlying26 hi hz0 hz1 hz2 rfl _ _ _ rfl hown1 _ (some ⟨g, 0, none⟩) (enc m).length cc (u8s (enc m)) rfl (u8s_len _) HO.out (fun h => by cases h) (u8s_one _) (by unfold maxLen; omega) (by omega) hb2.size ?_)
          intro v1 w2 ho1 hg1 hb3
          have ho2 : w2.ownsRow w.heap.size 5 1 v1 (flat (ns ++ [m])).length (u8s (flat (ns ++ [m]))) := by
            rw [flat_app, u8s_app, List.length_append, show flat [m] = enc m by simp [flat]]; exact ho1
          have howt2 := howt1.kept hg1 (own_apart howt1 hown1 (by decide))
          have hb4 := hb2.trans hb3
          have HO2 := Lib.hid ho2
          clear ho1 ho2 hg1 howt1 hown1
          go_wp2_with (at_builtin; refine wpList_app rfl (.tmp 60) (.tmp 62) 25 rfl w.heap.size 3 i1 (.int .i64 0) 8 Try.underlying25 hj hy0 hy1 hy2 rfl _ _ _ rfl (howt2.alloc _) _ (some ⟨w2.heap.size, 0, none⟩) 1 1 [.int .i64 (m : Int)] rfl rfl (Has.fresh w2 #[.int .i64 (m : Int)] 3) (fun h => by cases h) (by simp; rfl) (by unfold maxLen; omega) (by omega) (by have := hb4.size; simp; omega) ?_)
          intro v2 w3 ho3 hg3 hb5
          have ho4 : w3.ownsRow w.heap.size 3 1 v2 (ns ++ [m]).length (ints (vals 0 (ns ++ [m]))) := by
            rw [vals_app, Nat.zero_add, HK.out, HN.out, ints_app, List.length_append]; exact ho3
          have ho5 := (HO2.out.alloc (.cells #[.int .i64 (m : Int)] 3)).kept hg3 (own_apart (HO2.out.alloc _) (howt2.alloc (.cells #[.int .i64 (m : Int)] 3)) (by decide))
          have hb6 := (hb4.alloc hb4.size (.cells #[.int .i64 (m : Int)] 3)).trans hb5
          have HALL2 := Lib.hid (show ∀ q ∈ ns ++ [m], q < 1099511627776 from fun q hq => by
            rcases List.mem_append.1 hq with h | h
            · exact HALL.out q h
            · rw [List.mem_singleton.1 h]; exact hm)
          have HO5 := Lib.hid ho5
          have HO4 := Lib.hid ho4
          clear ho3 hg3 ho4 ho5 howt2 hb5
          go_wp2
          go_roundw
          case rel => exact ⟨k + 1, ns ++ [m], by go_num, by omega, by omega, by simp; exact HK.out, HALL2.out, HO5.out, HO4.out, hb6⟩
          case measure => simp [intOf]; omega
        · obtain ⟨m, hkm⟩ : ∃ m, m = k := ⟨_, rfl⟩
          have hm : m < 1099511627776 := by omega
          have hel := enc_six hm
          have HN := Lib.hid (val_even (m := m) hpar)
          have HZ := Lib.hid (show z < 0 ∨ 1099511627776 ≤ z by omega)
          have HM := Lib.hid (fun w => show Calls Try.prog 16 #[.int .i64 k] w (NumPost m w) from hkm ▸ number_row m hm w)
          have HI := Lib.hid (show (m : Int) = (k : Int) by omega)
          rw [HI.out] at HN
          clear hz hpar hkm
          go_wp2_with fail
          refine (signum_some z _).mono ?_
          rintro e wa ⟨va, ba, rfl, hba⟩
          go_wp2_with fail
          refine (number_none z HZ.out _).mono ?_
          rintro e w1 ⟨rfl, rfl⟩
          go_wp2_with fail
          refine (signum_some k _).mono ?_
          rintro e wb ⟨vb, bb, rfl, hbb⟩
          go_wp2_with fail
          refine (HM.out _).mono ?_
          rintro e w1 ⟨g, cc, rfl, ho, hbn⟩
          have hbx := (hba.trans (hbb.mono hba.size)).trans (hbn.mono (Nat.le_trans hba.size hbb.size))
          have ho := own_base ho (Nat.le_trans hba.size hbb.size)

          have hgrow1 := hbx.size
          have hown1 := below_own hown hbx (Nat.le_refl _)
          have howt1 := below_own howt hbx (Nat.le_refl _)
          have hb2 := hb.trans (hbx.mono hb.size)
          have HO := Lib.hid (Has.own ho)
          clear ho hown howt
          go_wp2_with (at_builtin; refine wpList_app rfl (.tmp 57) (.tmp 58) 26 rfl w.heap.size 5 i0 (.int .u8 0) 1 Try.underlying26 hi hz0 hz1 hz2 rfl _ _ _ rfl hown1 _ (some ⟨g, 0, none⟩) (enc m).length cc (u8s (enc m)) rfl (u8s_len _) HO.out (fun h => by cases h) (u8s_one _) (by unfold maxLen; omega) (by omega) hb2.size ?_)
          intro v1 w2 ho1 hg1 hb3
          have ho2 : w2.ownsRow w.heap.size 5 1 v1 (flat (ns ++ [m])).length (u8s (flat (ns ++ [m]))) := by
            rw [flat_app, u8s_app, List.length_append, show flat [m] = enc m by simp [flat]]; exact ho1
          have howt2 := howt1.kept hg1 (own_apart howt1 hown1 (by decide))
          have hb4 := hb2.trans hb3
          have HO2 := Lib.hid ho2
          clear ho1 ho2 hg1 howt1 hown1
          go_wp2_with (at_builtin; refine wpList_app rfl (.tmp 60) (.tmp 62) 25 rfl w.heap.size 3 i1 (.int .i64 0) 8 Try.underlying25 hj hy0 hy1 hy2 rfl _ _ _ rfl (howt2.alloc _) _ (some ⟨w2.heap.size, 0, none⟩) 1 1 [.int .i64 (k : Int)] rfl rfl (Has.fresh w2 #[.int .i64 (k : Int)] 3) (fun h => by cases h) (by simp; rfl) (by unfold maxLen; omega) (by omega) (by have := hb4.size; simp; omega) ?_)
          intro v2 w3 ho3 hg3 hb5
          have ho4 : w3.ownsRow w.heap.size 3 1 v2 (ns ++ [m]).length (ints (vals 0 (ns ++ [m]))) := by
            rw [vals_app, Nat.zero_add, HK.out, HN.out, ints_app, List.length_append]; exact ho3
          have ho5 := (HO2.out.alloc (.cells #[.int .i64 (k : Int)] 3)).kept hg3 (own_apart (HO2.out.alloc _) (howt2.alloc (.cells #[.int .i64 (k : Int)] 3)) (by decide))
          have hb6 := (hb4.alloc hb4.size (.cells #[.int .i64 (k : Int)] 3)).trans hb5
          have HALL2 := Lib.hid (show ∀ q ∈ ns ++ [m], q < 1099511627776 from fun q hq => by
            rcases List.mem_append.1 hq with h | h
            · exact HALL.out q h
            · rw [List.mem_singleton.1 h]; exact hm)
          have HO5 := Lib.hid ho5
          have HO4 := Lib.hid ho4
          clear ho3 hg3 ho4 ho5 howt2 hb5
          go_wp2
          go_roundw
          case rel => exact ⟨k + 1, ns ++ [m], by go_num, by omega, by omega, by simp; exact HK.out, HALL2.out, HO5.out, HO4.out, hb6⟩
          case measure => simp [intOf]; omega
      · have hp : (k : Int) % 2 = 1 := by omega
        by_cases hz : -549755813888 ≤ z ∧ z < 549755813888
        · obtain ⟨m, hmz⟩ : ∃ m, m = (zigS z).toNat := ⟨_, rfl⟩
          have hm : m < 1099511627776 := hmz ▸ zigS_nat hz.1 hz.2
          have hel := enc_six hm
          have HN := Lib.hid (show val k m = z by rw [hmz]; exact val_odd hpar hz.1 hz.2)
          have HM := Lib.hid (fun w => show Calls Try.prog 15 #[.int .i64 z] w (NumPost m w) from hmz ▸ signum_row z hz.1 hz.2 w)
          clear hz hpar hmz
          go_wp2_with fail
          refine (HM.out _).mono ?_
          rintro e w1 ⟨g, cc, rfl, ho, hbx⟩

          have hgrow1 := hbx.size
          have hown1 := below_own hown hbx (Nat.le_refl _)
          have howt1 := below_own howt hbx (Nat.le_refl _)
          have hb2 := hb.trans (hbx.mono hb.size)
          have HO := Lib.hid (Has.own ho)
          clear ho hown howt
          go_wp2_with (at_builtin; refine wpList_app rfl (.tmp 57) (.tmp 58) 26 rfl w.heap.size 5 i0 (.int .u8 0) 1 Try.underlying26 hi hz0 hz1 hz2 rfl _ _ _ rfl hown1 _ (some ⟨g, 0, none⟩) (enc m).length cc (u8s (enc m)) rfl (u8s_len _) HO.out (fun h => by cases h) (u8s_one _) (by unfold maxLen; omega) (by omega) hb2.size ?_)
          intro v1 w2 ho1 hg1 hb3
          have ho2 : w2.ownsRow w.heap.size 5 1 v1 (flat (ns ++ [m])).length (u8s (flat (ns ++ [m]))) := by
            rw [flat_app, u8s_app, List.length_append, show flat [m] = enc m by simp [flat]]; exact ho1
          have howt2 := howt1.kept hg1 (own_apart howt1 hown1 (by decide))
          have hb4 := hb2.trans hb3
          have HO2 := Lib.hid ho2
          clear ho1 ho2 hg1 howt1 hown1
          go_wp2_with (at_builtin; refine wpList_app rfl (.tmp 60) (.tmp 62) 25 rfl w.heap.size 3 i1 (.int .i64 0) 8 Try.underlying25 hj hy0 hy1 hy2 rfl _ _ _ rfl (howt2.alloc _) _ (some ⟨w2.heap.size, 0, none⟩) 1 1 [.int .i64 z] rfl rfl (Has.fresh w2 #[.int .i64 z] 3) (fun h => by cases h) (by simp; rfl) (by unfold maxLen; omega) (by omega) (by have := hb4.size; simp; omega) ?_)
          intro v2 w3 ho3 hg3 hb5
          have ho4 : w3.ownsRow w.heap.size 3 1 v2 (ns ++ [m]).length (ints (vals 0 (ns ++ [m]))) := by
            rw [vals_app, Nat.zero_add, HK.out, HN.out, ints_app, List.length_append]; exact ho3
          have ho5 := (HO2.out.alloc (.cells #[.int .i64 z] 3)).kept hg3 (own_apart (HO2.out.alloc _) (howt2.alloc (.cells #[.int .i64 z] 3)) (by decide))
          have hb6 := (hb4.alloc hb4.size (.cells #[.int .i64 z] 3)).trans hb5
          have HALL2 := Lib.hid (show ∀ q ∈ ns ++ [m], q < 1099511627776 from fun q hq => by
            rcases List.mem_append.1 hq with h | h
            · exact HALL.out q h
            · rw [List.mem_singleton.1 h]; exact hm)
          have HO5 := Lib.hid ho5
          have HO4 := Lib.hid ho4
          clear ho3 hg3 ho4 ho5 howt2 hb5
          go_wp2
          go_roundw
          case rel => exact ⟨k + 1, ns ++ [m], by go_num, by omega, by omega, by simp; exact HK.out, HALL2.out, HO5.out, HO4.out, hb6⟩
          case measure => simp [intOf]; omega
        · obtain ⟨m, hmz⟩ : ∃ m, m = (zigS (k : Int)).toNat := ⟨_, rfl⟩
          have hm : m < 1099511627776 := hmz ▸ zigS_nat (by omega) (by omega)
          have hel := enc_six hm
          have HN := Lib.hid (show val k m = (k : Int) by rw [hmz]; exact val_odd hpar (by omega) (by omega))
          have HM := Lib.hid (fun w => show Calls Try.prog 15 #[.int .i64 (k : Int)] w (NumPost m w) from hmz ▸ signum_row (k : Int) (by omega) (by omega) w)
          have HZ := Lib.hid (show z < -549755813888 ∨ 549755813888 ≤ z by omega)
          clear hz hpar hmz
          go_wp2_with fail
          refine (signum_none z HZ.out _).mono ?_
          rintro e w1 ⟨rfl, rfl⟩
          go_wp2_with fail
          refine (HM.out _).mono ?_
          rintro e w1 ⟨g, cc, rfl, ho, hbx⟩

          have hgrow1 := hbx.size
          have hown1 := below_own hown hbx (Nat.le_refl _)
          have howt1 := below_own howt hbx (Nat.le_refl _)
          have hb2 := hb.trans (hbx.mono hb.size)
          have HO := Lib.hid (Has.own ho)
          clear ho hown howt
          go_wp2_with (at_builtin; refine wpList_app rfl (.tmp 57) (.tmp 58) 26 rfl w.heap.size 5 i0 (.int .u8 0) 1 Try.underlying26 hi hz0 hz1 hz2 rfl _ _ _ rfl hown1 _ (some ⟨g, 0, none⟩) (enc m).length cc (u8s (enc m)) rfl (u8s_len _) HO.out (fun h => by cases h) (u8s_one _) (by unfold maxLen; omega) (by omega) hb2.size ?_)
          intro v1 w2 ho1 hg1 hb3
          have ho2 : w2.ownsRow w.heap.size 5 1 v1 (flat (ns ++ [m])).length (u8s (flat (ns ++ [m]))) := by
            rw [flat_app, u8s_app, List.length_append, show flat [m] = enc m by simp [flat]]; exact ho1
          have howt2 := howt1.kept hg1 (own_apart howt1 hown1 (by decide))
          have hb4 := hb2.trans hb3
          have HO2 := Lib.hid ho2
          clear ho1 ho2 hg1 howt1 hown1
          go_wp2_with (at_builtin; refine wpList_app rfl (.tmp 60) (.tmp 62) 25 rfl w.heap.size 3 i1 (.int .i64 0) 8 Try.underlying25 hj hy0 hy1 hy2 rfl _ _ _ rfl (howt2.alloc _) _ (some ⟨w2.heap.size, 0, none⟩) 1 1 [.int .i64 (k : Int)] rfl rfl (Has.fresh w2 #[.int .i64 (k : Int)] 3) (fun h => by cases h) (by simp; rfl) (by unfold maxLen; omega) (by omega) (by have := hb4.size; simp; omega) ?_)
          intro v2 w3 ho3 hg3 hb5
          have ho4 : w3.ownsRow w.heap.size 3 1 v2 (ns ++ [m]).length (ints (vals 0 (ns ++ [m]))) := by
            rw [vals_app, Nat.zero_add, HK.out, HN.out, ints_app, List.length_append]; exact ho3
          have ho5 := (HO2.out.alloc (.cells #[.int .i64 (k : Int)] 3)).kept hg3 (own_apart (HO2.out.alloc _) (howt2.alloc (.cells #[.int .i64 (k : Int)] 3)) (by decide))
          have hb6 := (hb4.alloc hb4.size (.cells #[.int .i64 (k : Int)] 3)).trans hb5
          have HALL2 := Lib.hid (show ∀ q ∈ ns ++ [m], q < 1099511627776 from fun q hq => by
            rcases List.mem_append.1 hq with h | h
            · exact HALL.out q h
            · rw [List.mem_singleton.1 h]; exact hm)
          have HO5 := Lib.hid ho5
          have HO4 := Lib.hid ho4
          clear ho3 hg3 ho4 ho5 howt2 hb5
          go_wp2
          go_roundw
          case rel => exact ⟨k + 1, ns ++ [m], by go_num, by omega, by omega, by simp; exact HK.out, HALL2.out, HO5.out, HO4.out, hb6⟩
          case measure => simp [intOf]; omega
    · obtain ⟨Ab, cb, hvb, _, _⟩ := own_slice hown
      obtain ⟨At, ct, hvt, _, _⟩ := own_slice howt
      subst hvb; subst hvt
      have HB := Lib.hid (Has.own hown)
      have HT := Lib.hid (Has.own howt)
      clear hown howt
      obtain ⟨wo, hwo⟩ : ∃ wo : World, wo = wr := ⟨_, rfl⟩
      subst hwo
      by_cases hq : k < zs.length
      all_goals
        go_wp2_with fail
        go_loop [9, 66] (fun x y => RowsRel2 ns x y) (fun _ y => ns.length - (intOf y).toNat)
        case atStart => exact ⟨0, rfl, Nat.zero_le _, by simp [flat]⟩
        case round =>
          obtain ⟨j, rfl, hj2, rfl⟩ := hrel
          by_cases hlt : j < ns.length
          · obtain ⟨m, r, hd⟩ : ∃ m r, ns.drop j = m :: r := ⟨ns[j], ns.drop (j + 1), List.drop_eq_getElem_cons hlt⟩
            have hmem : m ∈ ns := List.mem_of_mem_drop (i := j) (by rw [hd]; exact List.mem_cons_self ..)
            have hf := flat_at hd (HALL.out m hmem)
            obtain ⟨ad, hA, hc⟩ := vals_at HT.out hd
            subst hA
            have HF := Lib.hid hf.1
            have hfl2 := flat_len (ns.take j) (fun q hq => HALL.out q (List.mem_of_mem_take hq))
            have hfl3 : (flat (ns.take j)).length ≤ 240 := by simp at hfl2; omega
            obtain ⟨x, hx⟩ : ∃ x, zagS m = x := ⟨_, rfl⟩
            by_cases hpar : j % 2 = 0
            · rw [show val j m = (m : Int) by unfold val; rw [if_pos hpar]] at hc
              have hp : (j : Int) % 2 = 0 := by omega
              have HX := Lib.hid hx
              clear hf hd hfl2 hx hpar
              go_wp2_with fail
              refine (takesigned_is HF.out HX.out rfl (by omega) (by omega) (flat_u8 ns) _ HB.out).mono ?_
              rintro e w2 ⟨rfl, rfl⟩
              go_wp2_with fail
              refine (take_is HF.out rfl (by omega) (by omega) (flat_u8 ns) _ HB.out).mono ?_
              rintro e w2 ⟨rfl, rfl⟩
              go_wp2
              go_round
              case rel => exact ⟨j + 1, by go_num, by omega, rfl⟩
              case measure => simp [intOf]; omega
            · rw [show val j m = x by unfold val; rw [if_neg hpar, hx]] at hc
              have hp : (j : Int) % 2 = 1 := by omega
              have HX := Lib.hid hx
              clear hf hd hfl2 hx hpar
              go_wp2_with fail
              refine (takesigned_is HF.out HX.out rfl (by omega) (by omega) (flat_u8 ns) _ HB.out).mono ?_
              rintro e w2 ⟨rfl, rfl⟩
              go_wp2
              go_round
              case rel => exact ⟨j + 1, by go_num, by omega, rfl⟩
              case measure => simp [intOf]; omega
          · have hje : j = ns.length := by omega
            subst hje
            have HE := Lib.hid (show (ns.take ns.length) = ns from List.take_length)
            rw [HE.out]
            have hw1 : ((flat ns).length : Int) % ((flat ns).length + 1) = (flat ns).length := Int.emod_eq_of_lt (by omega) (by omega)
            have HW := Lib.hid (fun w => within_any ((flat ns).length : Int) ((flat ns).length + 1) (by omega) (by omega) (by omega) (by omega) w)
            rw [hw1] at HW
            clear hw1
            go_wp2_with fail
            refine (HW.out _).mono ?_
            rintro e w2 ⟨rfl, rfl⟩
            go_wp2_with fail
            refine (wakes_any _).mono ?_
            rintro e w2 ⟨rfl, hb2⟩
            go_wp2_with fail
            go_ret
            exact ⟨rfl, hb.trans (hb2.mono hb.size)⟩
end Go.Proofs.Ytfjgcpeaghlcgaa
