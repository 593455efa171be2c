/- The walk of StoreTops. -/
import Derived.Test.YtnbmhcgalpnmeaaStoreOne
namespace Go.Proofs.Ytnbmhcgalpnmeaa
open Go.RowKit Go.Maps

/-- What the law wants: the sum, if it does not leave the range. -/
theorem tops_up {k x a t : Int} (hk : 0 ≤ k ∧ k < 64) (hx : 2147483548 ≤ x ∧ x ≤ 2147483647) (ha : 0 ≤ a ∧ a < 200) (ht : t = if x + a < 2147483648 then x + a else x) :
    storeS (Kv.new.put k x) 3 k a = (t, Kv.new.put k t) := by
  by_cases h : x + a < 2147483648
  · rw [if_pos h] at ht
    rw [st_add hk (by omega) (by rw [Kv.val_put]; omega), Kv.val_put, Kv.put_put, ← ht]
  · rw [if_neg h] at ht
    rw [st_add_out hk (by omega) (by rw [Kv.val_put]; omega), Kv.val_put, ← ht]
theorem tops_down {k x a t : Int} (hk : 0 ≤ k ∧ k < 64) (hx : 2147483548 ≤ x ∧ x ≤ 2147483647) (ha : 0 ≤ a ∧ a < 200) (ht : t = if x + a < 2147483648 then x + a else x) :
    storeS (Kv.new.put k (-x)) 3 k (-a) = (-t, Kv.new.put k (-t)) := by
  by_cases h : x + a < 2147483648
  · rw [if_pos h] at ht
    have e : -x + -a = -t := by omega
    rw [st_add hk (by omega) (by rw [Kv.val_put]; omega), Kv.val_put, Kv.put_put, e]
  · rw [if_neg h] at ht
    rw [st_add_out hk (by omega) (by rw [Kv.val_put]; omega), Kv.val_put, ← ht]
set_option maxHeartbeats 2000000 in
theorem storeTops_walk (key was add : Int) (w : World) (h0 : fit key) (h1 : fit was) (h2 : fit add) :
    Calls Try.prog 4 #[.int .i64 key, .int .i64 was, .int .i64 add] w fun e w' => e = .returned (.bool true) ∧ Below w.heap.size w w' := by
  have KA := Lib.hid (fun w => within_any key 64 (by omega) (by omega) (wf_i64 h0).1 (wf_i64 h0).2 w)
  have KB := Lib.hid (fun w => within_any was 100 (by omega) (by omega) (wf_i64 h1).1 (wf_i64 h1).2 w)
  have KC := Lib.hid (fun w => within_any add 200 (by omega) (by omega) (wf_i64 h2).1 (wf_i64 h2).2 w)
  obtain ⟨k, hk⟩ : ∃ k, key % 64 = k := ⟨_, rfl⟩
  obtain ⟨y, hy⟩ : ∃ y, was % 100 = y := ⟨_, rfl⟩
  obtain ⟨a, ha⟩ : ∃ a, add % 200 = a := ⟨_, rfl⟩
  have bk := kmod key 64 (by omega)
  have by_ := kmod was 100 (by omega)
  have ba := kmod add 200 (by omega)
  rw [hk] at KA bk
  rw [hy] at KB by_
  rw [ha] at KC ba
  obtain ⟨x, hx⟩ : ∃ x, 2147483647 - y = x := ⟨_, rfl⟩
  have bx : 2147483548 ≤ x ∧ x ≤ 2147483647 := by omega
  obtain ⟨t, ht⟩ : ∃ t, t = if x + a < 2147483648 then x + a else x := ⟨_, rfl⟩
  have bt : 0 < t ∧ t < 2147483648 := by
    by_cases h : x + a < 2147483648
    · rw [if_pos h] at ht; omega
    · rw [if_neg h] at ht; omega
  have E1 := Lib.hid (show storeS Kv.new 1 k x = (0, Kv.new.put k x) from st_put bk (by omega))
  have E2 := Lib.hid (tops_up bk bx ba ht)
  have E3 := Lib.hid (show storeS (Kv.new.put k t) 1 k (-x) = (t, Kv.new.put k (-x)) from by rw [st_put bk (by omega), Kv.val_put, Kv.put_put])
  have E4 := Lib.hid (tops_down bk bx ba ht)
  have E5 := Lib.hid (show storeS (Kv.new.put k (-t)) 1 k 2147483648 = (0, Kv.new.put k (-t)) from by
    have hm : mayOp k 2147483648 = false := decide_eq_false (by omega)
    unfold storeS
    rw [if_pos hm])
  have E6 := Lib.hid (show storeS (Kv.new.put k (-t)) 2 k 0 = (-t, Kv.new.put k (-t)) from by rw [st_get bk (by omega), Kv.val_put])
  have w1 : IntKind.i64.wrap (2147483647 - y) = x := hx ▸ IntWalk.i64_in _ ⟨by omega, by omega⟩
  have w2 : IntKind.i64.wrap (x + a) = x + a := IntWalk.i64_in _ ⟨by omega, by omega⟩
  have w3 : IntKind.i64.wrap (-x) = -x := IntWalk.i64_in _ ⟨by omega, by omega⟩
  have w4 : IntKind.i64.wrap (-a) = -a := IntWalk.i64_in _ ⟨by omega, by omega⟩
  have w5 : IntKind.i64.wrap (-t) = -t := IntWalk.i64_in _ ⟨by omega, by omega⟩
  have HT := Lib.hid ht
  have HK := Lib.hid bk
  have hxx := Lib.hid hx
  have bxx := Lib.hid bx
  have bba := Lib.hid ba
  clear h0 h1 h2 hk hy ha ht bk
  by_cases hc : x + a < 2147483648
  · have ht2 := HT.out
    rw [if_pos hc] at ht2
    subst ht2
    go_enter Try.func4, Try.ntmps4
    go_wp2_with fail
    refine (KA.out _).mono ?_
    rintro e u1 ⟨rfl, rfl⟩
    go_wp2_with fail
    refine (KB.out _).mono ?_
    rintro e u2 ⟨rfl, rfl⟩
    go_wp2_with fail
    refine (KC.out _).mono ?_
    rintro e u3 ⟨rfl, rfl⟩
    go_wp2_with fail
    refine (sn_new w _ (Below.refl _ _)).mono ?_
    rintro e v1 ⟨sb, bm, rfl, h1, _, _, _⟩
    have H1 := Lib.hid h1
    clear h1
    go_wp2_with fail
    refine (H1.out.does (by omega) E1.out).mono ?_
    rintro e v2 ⟨rfl, h2, _⟩
    have H2 := Lib.hid h2
    clear h2
    go_wp2_with fail
    refine (H2.out.does (by omega) E2.out).mono ?_
    rintro e v3 ⟨rfl, h3, _⟩
    have H3 := Lib.hid h3
    clear h3
    go_wp2_with fail
    refine (H3.out.does (by omega) E3.out).mono ?_
    rintro e v4 ⟨rfl, h4, _⟩
    have H4 := Lib.hid h4
    clear h4
    go_wp2_with fail
    refine (H4.out.does (by omega) E4.out).mono ?_
    rintro e v5 ⟨rfl, h5, _⟩
    have H5 := Lib.hid h5
    clear h5
    go_wp2_with fail
    refine (H5.out.does (by omega) E5.out).mono ?_
    rintro e v6 ⟨rfl, h6, _⟩
    have H6 := Lib.hid h6
    clear h6
    go_wp2_with fail
    refine (H6.out.does (by omega) E6.out).mono ?_
    rintro e v7 ⟨rfl, h7, _⟩
    have H7 := Lib.hid h7
    clear h7
    go_wp2_with fail
    refine (wakes10_any _).mono ?_
    rintro e v8 ⟨rfl, hb⟩
    have H8 := Lib.hid (H7.out.below hb)
    clear hb
    go_wp2_with fail
    go_ret
    exact ⟨rfl, H8.out.low⟩
  · have ht2 := HT.out
    rw [if_neg hc] at ht2
    subst ht2
    go_enter Try.func4, Try.ntmps4
    go_wp2_with fail
    refine (KA.out _).mono ?_
    rintro e u1 ⟨rfl, rfl⟩
    go_wp2_with fail
    refine (KB.out _).mono ?_
    rintro e u2 ⟨rfl, rfl⟩
    go_wp2_with fail
    refine (KC.out _).mono ?_
    rintro e u3 ⟨rfl, rfl⟩
    go_wp2_with fail
    refine (sn_new w _ (Below.refl _ _)).mono ?_
    rintro e v1 ⟨sb, bm, rfl, h1, _, _, _⟩
    have H1 := Lib.hid h1
    clear h1
    go_wp2_with fail
    refine (H1.out.does (by omega) E1.out).mono ?_
    rintro e v2 ⟨rfl, h2, _⟩
    have H2 := Lib.hid h2
    clear h2
    go_wp2_with fail
    refine (H2.out.does (by omega) E2.out).mono ?_
    rintro e v3 ⟨rfl, h3, _⟩
    have H3 := Lib.hid h3
    clear h3
    go_wp2_with fail
    refine (H3.out.does (by omega) E3.out).mono ?_
    rintro e v4 ⟨rfl, h4, _⟩
    have H4 := Lib.hid h4
    clear h4
    go_wp2_with fail
    refine (H4.out.does (by omega) E4.out).mono ?_
    rintro e v5 ⟨rfl, h5, _⟩
    have H5 := Lib.hid h5
    clear h5
    go_wp2_with fail
    refine (H5.out.does (by omega) E5.out).mono ?_
    rintro e v6 ⟨rfl, h6, _⟩
    have H6 := Lib.hid h6
    clear h6
    go_wp2_with fail
    refine (H6.out.does (by omega) E6.out).mono ?_
    rintro e v7 ⟨rfl, h7, _⟩
    have H7 := Lib.hid h7
    clear h7
    go_wp2_with fail
    refine (wakes10_any _).mono ?_
    rintro e v8 ⟨rfl, hb⟩
    have H8 := Lib.hid (H7.out.below hb)
    clear hb
    go_wp2_with fail
    go_ret
    exact ⟨rfl, H8.out.low⟩
end Go.Proofs.Ytnbmhcgalpnmeaa
