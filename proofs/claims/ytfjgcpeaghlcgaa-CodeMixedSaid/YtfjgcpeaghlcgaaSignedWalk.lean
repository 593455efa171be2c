/- The walk of CodeSigned: it returns true for every int. -/
import Derived.Test.YtfjgcpeaghlcgaaZigsWalk
namespace Go.Proofs.Ytfjgcpeaghlcgaa
open Go.RowKit

theorem refzig_is {n r : Int} (h : zigS n = r) (w : World) : Calls Try.prog 25 #[.int .i64 n] w fun e w' => e = .returned (.int .i64 r) ∧ w = w' := by
  rw [← h]; exact refzig_any n w
theorem refzag_is {n r : Int} (h : zagS n = r) (w : World) : Calls Try.prog 24 #[.int .i64 n] w fun e w' => e = .returned (.int .i64 r) ∧ w = w' := by
  rw [← h]; exact refzag_any n w
theorem enc_u8 (m : Nat) : ∀ z ∈ enc m, 0 ≤ z ∧ z ≤ 255 := enc_bound m m (Nat.le_refl _)
/-- A number that stands in the bytes of a row is taken. -/
theorem takesigned_enc (A : Option Addr) (c m B : Nat) (hm : m < 1099511627776) (w : World) (hh : Has w B A (u8s (enc m))) :
    Calls Try.prog 17 #[.slice A (enc m).length c, .int .i64 0] w fun e w' => e = .returned (.tuple #[.int .i64 (zagS m), .int .i64 ((enc m).length : Int), .bool true]) ∧ w = w' := by
  have h := takesigned_any A c (enc m) B 0 w (by have := enc_len 5 m (by omega); omega) (by omega) (enc_u8 m) hh
  rw [takeS_enc0 m hm] at h
  exact h

set_option maxHeartbeats 400000 in
theorem codeSigned_in (n : Int) (w : World) (h1 : -549755813888 ≤ n) (h2 : n < 549755813888) :
    Calls Try.prog 7 #[.int .i64 n] w fun e w' => e = .returned (.bool true) ∧ Below w.heap.size w w' := by
  obtain ⟨m, hm⟩ : ∃ m : Nat, zigS n = m := ⟨(zigS n).toNat, by have := zigS_in h1 h2; omega⟩
  have hlt : m < 1099511627776 := by have := zigS_in h1 h2; omega
  obtain ⟨k, hk⟩ : ∃ k, zagS n = k := ⟨_, rfl⟩
  have HZ := Lib.hid (show zagS m = n by rw [← hm]; exact zagS_zig h1 h2)
  have HS := Lib.hid (fun w => show Calls Try.prog 15 #[.int .i64 n] w (NumPost m w) from by
    have := signum_row n h1 h2 w
    rw [hm] at this; exact this)
  have HM := Lib.hid hm
  have HK := Lib.hid hk
  clear hm hk
  go_enter Try.func7, Try.ntmps7
  go_wp2_with fail
  refine (zig_is HM.out _).mono ?_
  rintro e w1 ⟨rfl, rfl⟩
  go_wp2_with fail
  refine (refzig_is HM.out _).mono ?_
  rintro e w1 ⟨rfl, rfl⟩
  go_wp2_with fail
  refine (zag_is HK.out _).mono ?_
  rintro e w1 ⟨rfl, rfl⟩
  go_wp2_with fail
  refine (refzag_is HK.out _).mono ?_
  rintro e w1 ⟨rfl, rfl⟩
  go_wp2_with fail
  refine (HS.out _).mono ?_
  rintro e w1 ⟨g, c, rfl, ho, hb⟩
  have HO := Lib.hid (Has.own ho)
  clear ho
  go_wp2_with fail
  refine (takesigned_enc _ _ m _ hlt _ HO.out).mono ?_
  rintro e w2 ⟨rfl, rfl⟩
  rw [HZ.out]
  go_wp2_with fail
  refine (zag_is HZ.out _).mono ?_
  rintro e w2 ⟨rfl, rfl⟩
  go_wp2_with fail
  refine (wakes_any _).mono ?_
  rintro e w3 ⟨rfl, hb3⟩
  go_wp2_with fail
  go_ret
  exact ⟨rfl, hb.trans (hb3.mono hb.size)⟩

set_option maxHeartbeats 400000 in
theorem codeSigned_out (n : Int) (w : World) (h : n < -549755813888 ∨ 549755813888 ≤ n) :
    Calls Try.prog 7 #[.int .i64 n] w fun e w' => e = .returned (.bool true) ∧ Below w.heap.size w w' := by
  have HM := Lib.hid (zigS_out h)
  obtain ⟨k, hk⟩ : ∃ k, zagS n = k := ⟨_, rfl⟩
  have HK := Lib.hid hk
  have HH := Lib.hid h
  clear hk
  rcases h with h | h
  all_goals
    try have hd : decide (n < 549755813888) = false := by rw [decide_eq_false_iff_not]; omega
    go_enter Try.func7, Try.ntmps7
    go_wp2_with fail
    refine (zig_is HM.out _).mono ?_
    rintro e w1 ⟨rfl, rfl⟩
    go_wp2_with fail
    refine (refzig_is HM.out _).mono ?_
    rintro e w1 ⟨rfl, rfl⟩
    go_wp2_with fail
    refine (zag_is HK.out _).mono ?_
    rintro e w1 ⟨rfl, rfl⟩
    go_wp2_with fail
    refine (refzag_is HK.out _).mono ?_
    rintro e w1 ⟨rfl, rfl⟩
    go_wp2_with fail
    refine (signum_none n HH.out _).mono ?_
    rintro e w1 ⟨rfl, rfl⟩
    go_wp2_with fail
    refine (wakes_any _).mono ?_
    rintro e w3 ⟨rfl, hb3⟩
    go_wp2_with fail
    go_ret
    exact ⟨rfl, hb3⟩
theorem codeSigned_walk (n : Int) (w : World) (_hw : (Lit.int .i64 n).wf = true) :
    Calls Try.prog 7 #[.int .i64 n] w fun e w' => e = .returned (.bool true) ∧ Below w.heap.size w w' := by
  by_cases h : -549755813888 ≤ n ∧ n < 549755813888
  · exact codeSigned_in n w h.1 h.2
  · exact codeSigned_out n w (by omega)
end Go.Proofs.Ytfjgcpeaghlcgaa
