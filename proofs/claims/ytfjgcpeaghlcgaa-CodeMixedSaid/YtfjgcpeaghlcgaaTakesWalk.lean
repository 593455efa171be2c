/- The walk of CodeTakes: it returns true for any bytes and any place. -/
import Derived.Test.YtfjgcpeaghlcgaaNumbersWalk
namespace Go.Proofs.Ytfjgcpeaghlcgaa
open Go.RowKit

theorem reftake_is {A : Option Addr} {c l : Nat} {zs : List Int} {B : Nat} {i n nx : Int} {ok : Bool} (hr : takeS zs i = (n, nx, ok)) (hl : zs.length = l) (hm : l ≤ 9223372036854775806) (hi : i ≤ 9223372036854775807) (hz : ∀ z ∈ zs, 0 ≤ z ∧ z ≤ 255) (w : World) (hh : Has w B A (u8s zs)) :
    Calls Try.prog 23 #[.slice A l c, .int .i64 i] w fun e w' => e = .returned (.tuple #[.int .i64 n, .int .i64 nx, .bool ok]) ∧ w = w' := by
  subst hl
  have h := reftake_any A c zs B i w hm hi hz hh
  rw [hr] at h
  exact h
theorem takesigned_is {A : Option Addr} {c l : Nat} {zs : List Int} {B : Nat} {i n nx x : Int} {ok : Bool} (hr : takeS zs i = (n, nx, ok)) (hx : zagS n = x) (hl : zs.length = l) (hm : l ≤ 9223372036854775806) (hi : i ≤ 9223372036854775807) (hz : ∀ z ∈ zs, 0 ≤ z ∧ z ≤ 255) (w : World) (hh : Has w B A (u8s zs)) :
    Calls Try.prog 17 #[.slice A l c, .int .i64 i] w fun e w' => e = .returned (.tuple #[.int .i64 x, .int .i64 nx, .bool ok]) ∧ w = w' := by
  subst hl; subst hx
  have h := takesigned_any A c zs B i w hm hi hz hh
  rw [hr] at h
  exact h

set_option maxHeartbeats 1000000 in
theorem codeTakes_none (i : Int) (A : Option Addr) (c k : Nat) (zs ys : List Int) (w : World) (hi : i ≤ 9223372036854775807) (hy : ys.length = k) (hc : (zs.length = k ∧ k ≤ 200) ∨ (200 < zs.length ∧ k = 200)) (w0 : IsList .u8 w A zs c) (wy : Has w w.heap.size A (u8s ys)) (hyb : ∀ z ∈ ys, 0 ≤ z ∧ z ≤ 255)
    (ht : takeS ys i = (0, 0, false)) :
    Calls Try.prog 6 #[.slice A zs.length c, .int .i64 i] w fun e w' => e = .returned (.bool true) ∧ Below w.heap.size w w' := by
  have hcap := w0.le
  have hmost := w0.most
  unfold maxLen at hmost
  have HH := Lib.hid wy
  have HZ := Lib.hid hyb
  have HT := Lib.hid ht
  have HY := Lib.hid hy
  have hk : k ≤ 200 := by omega
  clear w0 hy ht wy hyb
  rcases hc with ⟨rfl, hc⟩ | ⟨hc, rfl⟩
  all_goals
    go_enter Try.func6, Try.ntmps6
    go_wp2_with fail
    refine (take_is HT.out HY.out (by omega) hi HZ.out _ HH.out).mono ?_
    rintro e w1 ⟨rfl, rfl⟩
    go_wp2_with fail
    refine (reftake_is HT.out HY.out (by omega) hi HZ.out _ HH.out).mono ?_
    rintro e w1 ⟨rfl, rfl⟩
    go_wp2_with fail
    refine (takesigned_is HT.out (x := 0) (by decide) HY.out (by omega) hi HZ.out _ HH.out).mono ?_
    rintro e w1 ⟨rfl, rfl⟩
    go_wp2_with fail
    refine (wakes_any _).mono ?_
    rintro e w1 ⟨rfl, hb⟩
    go_wp2_with fail
    go_ret
    exact ⟨rfl, hb⟩

set_option maxHeartbeats 1000000 in
theorem codeTakes_some (m p q : Nat) (A : Option Addr) (c k : Nat) (zs ys : List Int) (w : World) (hy : ys.length = k) (hc : (zs.length = k ∧ k ≤ 200) ∨ (200 < zs.length ∧ k = 200)) (w0 : IsList .u8 w A zs c) (wy : Has w w.heap.size A (u8s ys)) (hyb : ∀ z ∈ ys, 0 ≤ z ∧ z ≤ 255)
    (ht : takeS ys p = ((m : Int), (q : Int), true)) (hpq : p < q) (hqk : q ≤ k) (hm : m < 1099511627776) (he : (ys.drop p).take (q - p) = enc m) :
    Calls Try.prog 6 #[.slice A zs.length c, .int .i64 p] w fun e w' => e = .returned (.bool true) ∧ Below w.heap.size w w' := by
  have hcap := w0.le
  have hmost := w0.most
  unfold maxLen at hmost
  have hk : k ≤ 200 := by omega
  have hpc : p < c := by omega
  have hel : (enc m).length = q - p := by rw [← he]; simp; omega
  obtain ⟨ad, rfl, -⟩ := wy.at (k := p) (by rw [u8s_len]; omega)
  have hcut := wy.cut p (q - p)
  rw [he] at hcut
  obtain ⟨x, hx⟩ : ∃ x, zagS m = x := ⟨_, rfl⟩
  have HX := Lib.hid hx
  have HC := Lib.hid hcut
  have HH := Lib.hid wy
  have HZ := Lib.hid hyb
  have HT := Lib.hid ht
  have HY := Lib.hid hy
  have HL := Lib.hid hel
  have hl2 := enc_len 5 m (by omega)
  clear w0 hy ht wy hyb hx hcut he hel
  rcases hc with ⟨rfl, hc⟩ | ⟨hc, rfl⟩
  all_goals
    go_enter Try.func6, Try.ntmps6
    go_wp2_with fail
    refine (take_is HT.out HY.out (by omega) (by omega) HZ.out _ HH.out).mono ?_
    rintro e w1 ⟨rfl, rfl⟩
    go_wp2_with fail
    refine (reftake_is HT.out HY.out (by omega) (by omega) HZ.out _ HH.out).mono ?_
    rintro e w1 ⟨rfl, rfl⟩
    go_wp2_with fail
    refine (number_row m hm _).mono ?_
    rintro e w1 ⟨g, cc, rfl, ho, hb⟩
    have HO := Lib.hid (Has.own ho)
    have HC1 := Lib.hid ((HC.out.below hb (Nat.le_refl _)).more hb.size)
    have HH1 := Lib.hid (HH.out.below hb (Nat.le_refl _))
    clear ho
    go_wp2_with fail
    refine (same_is rfl HL.out (by omega) (sameB_refl _) _ HO.out HC1.out).mono ?_
    rintro e w2 ⟨rfl, nq, rfl⟩
    go_wp2_with fail
    refine (takesigned_is HT.out HX.out HY.out (by omega) (by omega) HZ.out _ (HH1.out.drewN nq)).mono ?_
    rintro e w2 ⟨rfl, rfl⟩
    go_wp2_with fail
    refine (refzag_is HX.out _).mono ?_
    rintro e w2 ⟨rfl, rfl⟩
    go_wp2_with fail
    refine (wakes_any _).mono ?_
    rintro e w2 ⟨rfl, hb2⟩
    go_wp2_with fail
    go_ret
    exact ⟨rfl, hb.trans ((below_drewN (Below.refl _ w1) nq).trans (hb2.mono hb.size))⟩
theorem codeTakes_walk (A : Option Addr) (c : Nat) (zs : List Int) (i : Int) (w : World) (w0 : IsList .u8 w A zs c) (w1 : (Lit.int .i64 i).wf = true) :
    Calls Try.prog 6 #[.slice A zs.length c, .int .i64 i] w fun e w' => e = .returned (.bool true) ∧ Below w.heap.size w w' := by
  have hi := (wf_i64 w1).2
  by_cases hc : 200 < zs.length
  · have hb : ∀ z ∈ zs.take 200, 0 ≤ z ∧ z ≤ 255 := fun z hz => wf_u8 (w0.fits z (List.mem_of_mem_take hz))
    rcases takeS_cases (zs.take 200) i hb with h | ⟨m, p, q, rfl, h1, h2, h3, h4, h5⟩
    · exact codeTakes_none i A c 200 zs (zs.take 200) w hi (by simp; omega) (Or.inr ⟨hc, rfl⟩) w0 (Has.take w0.has 200) hb h
    · exact codeTakes_some m p q A c 200 zs (zs.take 200) w (by simp; omega) (Or.inr ⟨hc, rfl⟩) w0 (Has.take w0.has 200) hb h1 h2 (by simp at h3; omega) h4 h5
  · have hb : ∀ z ∈ zs, 0 ≤ z ∧ z ≤ 255 := fun z hz => wf_u8 (w0.fits z hz)
    rcases takeS_cases zs i hb with h | ⟨m, p, q, rfl, h1, h2, h3, h4, h5⟩
    · exact codeTakes_none i A c zs.length zs zs w hi rfl (Or.inl ⟨rfl, by omega⟩) w0 w0.has hb h
    · exact codeTakes_some m p q A c zs.length zs zs w rfl (Or.inl ⟨rfl, by omega⟩) w0 w0.has hb h1 h2 h3 h4 h5
end Go.Proofs.Ytfjgcpeaghlcgaa
