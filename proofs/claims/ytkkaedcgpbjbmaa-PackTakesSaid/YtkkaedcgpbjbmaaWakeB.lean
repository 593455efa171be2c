/- The contract of wakes of the second layer's statements: the document's example. -/
import Derived.Test.YtkkaedcgpbjbmaaPack
import Derived.Test.YtkkaedcgpbjbmaaSame
namespace Go.Proofs.Ytkkaedcgpbjbmaa
open Go.RowKit

theorem bytes_example : bytesOf (listToks Vt.toks [⟨2, 300⟩]) = some [1, 2, 172, 2] := by
  have h : codes (listToks Vt.toks [⟨2, 300⟩]) = some [1, 2, 300] :=
    codes_cons.2 ⟨1, [2, 300], code_len.2 ⟨rfl, by omega⟩, codes_cons.2 ⟨2, [300], code_num.2 ⟨rfl, by omega⟩, codes_one (code_num.2 ⟨rfl, by omega⟩), rfl⟩, rfl⟩
  simp [bytesOf, h, flat, enc_small, enc_big]
theorem votes_example (w : World) : Calls Try.prog 20 #[.slice (some ⟨w.heap.size, 0, none⟩) 1 1] (w.alloc (.cells #[.int .i64 2, .int .i64 300] 43))
    fun e w' => ∃ A c, e = .returned (.tuple #[.slice A 4 c, .bool true]) ∧ Has w' w'.heap.size A (u8s [1, 2, 172, 2]) ∧ Below w.heap.size w w' := by
  have h := pack_votes [⟨2, 300⟩] (some ⟨w.heap.size, 0, none⟩) 1 (w.alloc (.cells #[.int .i64 2, .int .i64 300] 43)) (by rw [World.size_alloc]; exact Has.fresh w #[.int .i64 2, .int .i64 300] 43) (by simp [listToks, Vt.toks])
  refine h.mono ?_
  rintro e w' ⟨hb, ⟨bs, A, c, h1, h2, h3⟩ | ⟨h1, _⟩⟩
  · rw [bytes_example] at h1
    injection h1 with h1
    subst h1
    exact ⟨A, c, h2, Has.own h3, ((Below.refl _ w).alloc (Nat.le_refl _) _).trans (hb.mono (by simp))⟩
  · rw [bytes_example] at h1; cases h1
theorem same_four (A A' : Option Addr) (c c' : Nat) (B : Nat) (w : World) (h1 : Has w B A (u8s [1, 2, 172, 2])) (h2 : Has w B A' (u8s [1, 2, 172, 2])) :
    Calls Try.prog 16 #[.slice A 4 c, .slice A' 4 c'] w fun e w' => e = .returned (.bool true) ∧ Below w.heap.size w w' :=
  same_any A A' c c' [1, 2, 172, 2] [1, 2, 172, 2] B w (by decide) h1 h2

set_option maxHeartbeats 400000 in
theorem wakes_any (w : World) : Calls Try.prog 12 #[] w fun e w' => e = .returned (.bool true) ∧ Below w.heap.size w w' := by
  go_enter Try.func12, Try.ntmps12
  go_wp2_with fail
  refine (votes_example _).mono ?_
  rintro e w1 ⟨A, c, rfl, hh, hb⟩
  have HF := Lib.hid (Has.fresh w1 #[.int .u8 1, .int .u8 2, .int .u8 172, .int .u8 2] 5)
  have HH := Lib.hid ((hh.below (Below.alloc (B := w1.heap.size) (Below.refl _ w1) (Nat.le_refl _) (.cells #[.int .u8 1, .int .u8 2, .int .u8 172, .int .u8 2] 5)) (Nat.le_refl _)).more (Nat.le_succ _))
  clear hh
  go_wp2_with fail
  refine (same_four _ _ _ _ (w1.heap.size + 1) _ HH.out HF.out).mono ?_
  rintro e w2 ⟨rfl, hb2⟩
  go_wp2_with fail
  go_ret
  exact ⟨rfl, (hb.alloc hb.size _).trans (hb2.mono (by have := hb.size; simp; omega))⟩
end Go.Proofs.Ytkkaedcgpbjbmaa
