/- The walk of CodeNumbers: it returns true for any int and any bytes. -/
import Derived.Test.YtfjgcpeaghlcgaaSignedWalk
namespace Go.Proofs.Ytfjgcpeaghlcgaa
open Go.RowKit

theorem take_is {A : Option Addr} {c l : Nat} {zs : List Int} {B : Nat} {i n nx : Int} {ok : Bool} (hr : takeS zs i = (n, nx, ok)) (hl : zs.length = l) (hm : l ≤ 9223372036854775806) (hi : i ≤ 9223372036854775807) (hz : ∀ z ∈ zs, 0 ≤ z ∧ z ≤ 255) (w : World) (hh : Has w B A (u8s zs)) :
    Calls Try.prog 18 #[.slice A l c, .int .i64 i] w fun e w' => e = .returned (.tuple #[.int .i64 n, .int .i64 nx, .bool ok]) ∧ w = w' := by
  subst hl
  have h := take_any A c zs B i w hm hi hz hh
  rw [hr] at h
  exact h
theorem bytes_app {l m : List Int} (h1 : ∀ z ∈ l, 0 ≤ z ∧ z ≤ 255) (h2 : ∀ z ∈ m, 0 ≤ z ∧ z ≤ 255) : ∀ z ∈ l ++ m, 0 ≤ z ∧ z ≤ 255 := fun z hz => by
  rcases List.mem_append.1 hz with h | h
  · exact h1 z h
  · exact h2 z h
theorem sameB_refl (l : List Int) : sameB l l = true := by simp [sameB]

set_option maxHeartbeats 1000000 in
theorem codeNumbers_in (n : Nat) (hn : n < 1099511627776) (A : Option Addr) (c k : Nat) (zs ys : List Int) (w : World) (hy : ys.length = k) (hc : (zs.length = k ∧ k ≤ 200) ∨ (200 < zs.length ∧ k = 200)) (w0 : IsList .u8 w A zs c) (wy : Has w w.heap.size A (u8s ys)) (hyb : ∀ z ∈ ys, 0 ≤ z ∧ z ≤ 255) :
    Calls Try.prog 5 #[.int .i64 n, .slice A zs.length c] w fun e w' => e = .returned (.bool true) ∧ Below w.heap.size w w' := by
  have hel := enc_len 5 n (by omega)
  have hcap := w0.le
  have hmost := w0.most
  unfold maxLen at hmost
  have HA := Lib.hid w0.nil
  have HH := Lib.hid wy
  have HZ := Lib.hid hyb
  have ht := takeS_enc ys ys n hn
  have hk : k ≤ 200 := by omega
  have hl : (ys ++ (enc n ++ ys)).length = k + (enc n).length + k := by simp; omega
  rw [hy] at ht
  have HT := Lib.hid ht
  have HL := Lib.hid hl
  have HY := Lib.hid hy
  clear w0 hy ht hl wy hyb
  obtain ⟨i0, hi, hz0, hz1, hz2⟩ := info_parts Try.info5
  rcases hc with ⟨rfl, hc⟩ | ⟨hc, rfl⟩
  all_goals
    go_enter Try.func5, Try.ntmps5
    go_wp2_with fail
    refine (number_row n hn _).mono ?_
    rintro e w1 ⟨g1, c1, rfl, ho1, hb1⟩
    have HO1 := Lib.hid (Has.own ho1)
    clear ho1
    go_wp2_with fail
    refine (refnumber_row n hn _).mono ?_
    rintro e w2 ⟨g2, c2, rfl, ho2, hb2⟩
    have HO2 := Lib.hid (Has.own ho2)
    have HO3 := Lib.hid ((HO1.out.below hb2 (Nat.le_refl _)).more hb2.size)
    have hb := hb1.trans (hb2.mono hb1.size)
    clear ho2
    go_wp2_with fail
    refine (same_is rfl rfl (by omega) (sameB_refl _) _ HO3.out HO2.out).mono ?_
    rintro e w3 ⟨rfl, nq, rfl⟩
    go_wp2_with fail
    refine (copy_own _ _ _ _ ys _ HY.out (by have := HY.out; omega) ((HH.out.below hb (Nat.le_refl _)).drewN nq) HA.out).mono ?_
    rintro e w4 ⟨v4, rfl, ho4, hb4⟩
    have hs4 := hb4.size
    have HC4 := Lib.hid (((HO1.out.below (hb2.mono (Nat.le_refl _)) (Nat.le_refl _)).drewN nq).below (B' := w2.heap.size) hb4 hb2.size)
    have HA4 := Lib.hid ((((HH.out.below hb (Nat.le_refl _)).drewN nq).below (B' := w2.heap.size) hb4 (Nat.le_trans hb1.size hb2.size)))
    go_wp2_with (at_builtin; refine wpList_app rfl (.tmp 41) (.tmp 42) 26 rfl w2.heap.size 5 i0 (.int .u8 0) 1 Try.underlying26 hi hz0 hz1 hz2 rfl v4 _ (u8s ys) rfl ho4 _ (some ⟨g1, 0, none⟩) (enc n).length c1 (u8s (enc n)) rfl (u8s_len _) HC4.out (fun h => by cases h) (u8s_one _) (by unfold maxLen; omega) (by omega) (by simpa using hs4) ?_)
    intro v5 w5 ho5 _ hb5
    have hs5 := hb5.size
    have HA5 := Lib.hid (HA4.out.below (B' := w2.heap.size) hb5 (Nat.le_trans hb1.size hb2.size))
    have hbase : w2.heap.size ≤ w5.heap.size := by simp at hs4; omega
    go_wp2_with (at_builtin; refine wpList_app rfl (.tmp 43) (.tmp 44) 26 rfl w2.heap.size 5 i0 (.int .u8 0) 1 Try.underlying26 hi hz0 hz1 hz2 rfl v5 _ (u8s ys ++ u8s (enc n)) rfl ho5 _ A _ c (u8s ys) rfl ((u8s_len _).trans HY.out) HA5.out HA.out (u8s_one _) (by unfold maxLen; omega) (by omega) hbase ?_)
    intro v6 w6 ho6 _ hb6
    simp only [← u8s_app] at ho6
    obtain ⟨A6, c6, hv6, _, _⟩ := own_slice ho6
    rw [hv6] at ho6 ⊢
    have HO7 := Lib.hid (Has.own ho6)
    have hB := Lib.hid (hb.trans ((below_drewN (Below.refl _ w2) nq).trans ((hb4.mono (Nat.le_trans hb1.size hb2.size)).trans ((hb5.mono (Nat.le_trans hb1.size hb2.size)).trans (hb6.mono (Nat.le_trans hb1.size hb2.size))))))
    have hs6 : w.heap.size ≤ w6.heap.size := hB.out.size
    clear ho6 hv6 ho5 ho4
    go_wp2_with fail
    refine (take_is HT.out HL.out (by omega) (by omega) (bytes_app HZ.out (bytes_app (enc_u8 n) HZ.out)) _ HO7.out).mono ?_
    rintro e w7 ⟨rfl, rfl⟩
    go_wp2_with fail
    refine (wakes_any _).mono ?_
    rintro e w8 ⟨rfl, hb8⟩
    go_wp2_with fail
    go_ret
    exact ⟨rfl, hB.out.trans (hb8.mono hs6)⟩

set_option maxHeartbeats 400000 in
theorem codeNumbers_out (n : Int) (hn : n < 0 ∨ 1099511627776 ≤ n) (A : Option Addr) (c : Nat) (zs : List Int) (w : World) (w0 : IsList .u8 w A zs c) :
    Calls Try.prog 5 #[.int .i64 n, .slice A zs.length c] w fun e w' => e = .returned (.bool true) ∧ Below w.heap.size w w' := by
  have HN := Lib.hid hn
  have hcap := w0.le
  have hmost := w0.most
  unfold maxLen at hmost
  clear hn w0
  by_cases hc : 200 < zs.length
  all_goals
    go_enter Try.func5, Try.ntmps5
    go_wp2_with fail
    refine (number_none n HN.out _).mono ?_
    rintro e w1 ⟨rfl, rfl⟩
    go_wp2_with fail
    refine (refnumber_none n HN.out _).mono ?_
    rintro e w1 ⟨rfl, rfl⟩
    go_wp2_with fail
    refine (same_is (zs := []) (ys := []) rfl rfl (by simp) rfl _ (Has.nil _ 0 _) (Has.nil _ 0 _)).mono ?_
    rintro e w3 ⟨rfl, nq, rfl⟩
    go_wp2_with fail
    refine (wakes_any _).mono ?_
    rintro e w4 ⟨rfl, hb4⟩
    go_wp2_with fail
    go_ret
    exact ⟨rfl, (below_drewN (Below.refl _ _) nq).trans hb4⟩
theorem codeNumbers_walk (n : Int) (A : Option Addr) (c : Nat) (zs : List Int) (w : World) (_ : (Lit.int .i64 n).wf = true) (w1 : IsList .u8 w A zs c) :
    Calls Try.prog 5 #[.int .i64 n, .slice A zs.length c] w fun e w' => e = .returned (.bool true) ∧ Below w.heap.size w w' := by
  by_cases hn : 0 ≤ n ∧ n < 1099511627776
  · obtain ⟨m, rfl⟩ := Int.eq_ofNat_of_zero_le hn.1
    by_cases hc : 200 < zs.length
    · exact codeNumbers_in m (by omega) A c 200 zs (zs.take 200) w (by simp; omega) (Or.inr ⟨hc, rfl⟩) w1 (Has.take w1.has 200) fun z hz => wf_u8 (w1.fits z (List.mem_of_mem_take hz))
    · exact codeNumbers_in m (by omega) A c zs.length zs zs w rfl (Or.inl ⟨rfl, by omega⟩) w1 w1.has fun z hz => wf_u8 (w1.fits z hz)
  · exact codeNumbers_out n (by omega) A c zs w w1
end Go.Proofs.Ytfjgcpeaghlcgaa
