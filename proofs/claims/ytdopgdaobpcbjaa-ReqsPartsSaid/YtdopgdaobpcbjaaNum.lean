/- The contracts of code.Number and of the document's own Number: for a number from 0 to 2^40 - 1 its groups, in a new row; else none. -/
import Derived.Test.YtdopgdaobpcbjaaPlain
import Derived.Test.YtdopgdaobpcbjaaWords
namespace Go.Proofs.Ytdopgdaobpcbjaa
open Go.RowKit

theorem Try.info5 : (Try.prog.info? 5).map (fun i => (i.zero, i.size, i.bytes)) = some (some (.int .u8 0), 1, 1) := by kernel_rfl

theorem Try.info3 : (Try.prog.info? 3).map (fun i => (i.zero, i.size, i.bytes)) = some (some (.int .i64 0), 1, 8) := by kernel_rfl

/-- What Number returns where there are bytes: a slice of the call's own that reads as the groups. -/
def NumPost (n : Nat) (w : World) (e : Ending) (w' : World) : Prop :=
  ∃ g c, e = .returned (.tuple #[.slice (some ⟨g, 0, none⟩) (enc n).length c, .bool true]) ∧
    w'.ownsRow w.heap.size 5 1 (.slice (some ⟨g, 0, none⟩) (enc n).length c) (enc n).length (u8s (enc n)) ∧ Below w.heap.size w w'
theorem NumPost.of {n : Nat} {w w' : World} {v : Value} (h : w'.ownsRow w.heap.size 5 1 v (enc n).length (u8s (enc n))) (hb : Below w.heap.size w w') :
    NumPost n w (.returned (.tuple #[v, .bool true])) w' := by
  obtain ⟨g, c, rfl, _, _⟩ := h.form (enc_pos n)
  exact ⟨g, c, rfl, h, hb⟩

set_option maxHeartbeats 400000 in
set_option maxRecDepth 100000 in
theorem number_own (n : Nat) (hn : n < 1099511627776) (w : World) :
    Calls Try.prog 82 #[.int .i64 n] w fun e w' => ∃ v, e = .returned (.tuple #[v, .bool true]) ∧
      w'.ownsRow w.heap.size 5 1 v (enc n).length (u8s (enc n)) ∧ Below w.heap.size w w' := by
  obtain ⟨i0, hi, hz0, hz1, hz2⟩ := info_parts Try.info5
  have hlen := enc_len 5 n (by omega)
  go_enter Try.func82, Try.ntmps82
  go_wp2
  go_loopw [0, 4] (fun x v wr => ∃ (m : Nat) (pre : List Int), x = .int .i64 m ∧ m < 1099511627776 ∧ Hid (pre ++ enc m = enc n) ∧ wr.ownsRow w.heap.size 5 1 v pre.length (u8s pre) ∧ Below w.heap.size w wr) (fun x _ _ => (intOf x).toNat)
  case atStart => exact ⟨n, [], rfl, hn, rfl, World.ownsRow_nil _ _ _ _, Below.refl _ _⟩
  case round =>
    obtain ⟨m, pre, rfl, hm, he, hown, hnx⟩ := hrel
    by_cases hlt : 128 ≤ m
    · have hpl : pre.length ≤ 6 := by have := congrArg List.length he.out; simp at this; omega
      have e1 := enc_big hlt
      have HE : Hid (pre ++ [((m % 128 + 128 : Nat) : Int)] ++ enc (m / 128) = enc n) := by show _ = enc n; rw [← he.out, e1]; simp
      clear e1
      go_wp2_with (at_builtin; refine wpList_append_own _ rfl _ _ 36 rfl w.heap.size 5 i0 (.int .u8 0) 1 1 Try.underlying36 hi hz0 hz1 hz2 rfl (by decide) _ _ _ rfl (hown.alloc _) ⟨wr.heap.size, 0, none⟩ 1 1 [.int .u8 (↑m % 128 + 128)] rfl rfl ?c1 ?c2 ?c3 ?c4 ?c5 ?_)
      case c1 => exact cell_one_new _ _ _
      case c2 => intro u hu; simp at hu; subst hu; rfl
      case c3 => unfold maxLen; omega
      case c4 => omega
      case c5 => have := hnx.size; simp; omega
      intro v' w1 hown1 hgrow _
      have hown2 : w1.ownsRow w.heap.size 5 1 v' (pre ++ [((m % 128 + 128 : Nat) : Int)]).length (u8s (pre ++ [((m % 128 + 128 : Nat) : Int)])) := by
        rw [u8s_app, List.length_append]; exact hown1
      have hb1 : Below w.heap.size w w1 := (hnx.alloc hnx.size _).grown hgrow (by have := hnx.size; simp; omega) (hown.lt · · |>.1)
      clear hown1 hgrow
      go_wp2
      go_roundw
      case rel => exact ⟨m / 128, _, by go_num, by omega, HE, hown2, hb1⟩
      case measure => simp [intOf]; omega
    · have hpl : pre.length ≤ 6 := by have := congrArg List.length he.out; simp at this; omega
      have e1 := enc_small (by omega : m < 128)
      have HE : Hid (pre ++ [(m : Int)] = enc n) := by show _ = enc n; rw [← he.out, e1]
      clear e1
      go_wp2_with (at_builtin; refine wpList_append_own _ rfl _ _ 36 rfl w.heap.size 5 i0 (.int .u8 0) 1 1 Try.underlying36 hi hz0 hz1 hz2 rfl (by decide) _ _ _ rfl (hown.alloc _) ⟨wr.heap.size, 0, none⟩ 1 1 [.int .u8 ↑m] rfl rfl ?c1 ?c2 ?c3 ?c4 ?c5 ?_)
      case c1 => exact cell_one_new _ _ _
      case c2 => intro u hu; simp at hu; subst hu; rfl
      case c3 => unfold maxLen; omega
      case c4 => omega
      case c5 => have := hnx.size; simp; omega
      intro v' w1 hown1 hgrow _
      have hown2 : w1.ownsRow w.heap.size 5 1 v' (pre ++ [(m : Int)]).length (u8s (pre ++ [(m : Int)])) := by
        rw [u8s_app, List.length_append]; exact hown1
      have hb1 : Below w.heap.size w w1 := (hnx.alloc hnx.size _).grown hgrow (by have := hnx.size; simp; omega) (hown.lt · · |>.1)
      clear hown1 hgrow
      rw [HE.out] at hown2
      go_wp2
      go_ret2
      exact ⟨v', rfl, hown2, hb1⟩

theorem number_row (n : Nat) (hn : n < 1099511627776) (w : World) : Calls Try.prog 82 #[.int .i64 n] w (NumPost n w) :=
  (number_own n hn w).mono fun _ _ ⟨_, he, ho, hb⟩ => by subst he; exact NumPost.of ho hb

set_option maxHeartbeats 400000 in
theorem number_none (n : Int) (hn : n < 0 ∨ 1099511627776 ≤ n) (w : World) :
    Calls Try.prog 82 #[.int .i64 n] w fun e w' => e = .returned (.tuple #[.slice none 0 0, .bool false]) ∧ w = w' := by
  by_cases h : n < 0
  · clear hn
    go_enter Try.func82, Try.ntmps82
    go_wp2
    go_ret2
    exact ⟨rfl, rfl⟩
  · have h1 : 0 ≤ n := by omega
    have h2 : 1099511627775 < n := by omega
    clear hn h
    go_enter Try.func82, Try.ntmps82
    go_wp2
    go_ret2
    exact ⟨rfl, rfl⟩

set_option maxHeartbeats 400000 in
set_option maxRecDepth 100000 in
theorem refnumber_own (n : Nat) (hn : n < 1099511627776) (w : World) :
    Calls Try.prog 84 #[.int .i64 n] w fun e w' => ∃ v, e = .returned (.tuple #[v, .bool true]) ∧
      w'.ownsRow w.heap.size 5 1 v (enc n).length (u8s (enc n)) ∧ Below w.heap.size w w' := by
  obtain ⟨i0, hi, hz0, hz1, hz2⟩ := info_parts Try.info5
  have hlen := enc_len 5 n (by omega)
  go_enter Try.func84, Try.ntmps84
  go_wp2
  go_loopw [0, 4] (fun x v wr => ∃ (m : Nat) (pre : List Int), x = .int .i64 m ∧ m < 1099511627776 ∧ Hid (pre ++ enc m = enc n) ∧ wr.ownsRow w.heap.size 5 1 v pre.length (u8s pre) ∧ Below w.heap.size w wr) (fun x _ _ => (intOf x).toNat)
  case atStart => exact ⟨n, [], rfl, hn, rfl, World.ownsRow_nil _ _ _ _, Below.refl _ _⟩
  case round =>
    obtain ⟨m, pre, rfl, hm, he, hown, hnx⟩ := hrel
    by_cases hlt : 128 ≤ m
    · have hpl : pre.length ≤ 6 := by have := congrArg List.length he.out; simp at this; omega
      have e1 : enc m = ((128 + m % 128 : Nat) : Int) :: enc (m / 128) := by rw [enc_big hlt, Nat.add_comm]
      have HE : Hid (pre ++ [((128 + m % 128 : Nat) : Int)] ++ enc (m / 128) = enc n) := by show _ = enc n; rw [← he.out, e1]; simp
      clear e1
      go_wp2_with (at_builtin; refine wpList_append_own _ rfl _ _ 36 rfl w.heap.size 5 i0 (.int .u8 0) 1 1 Try.underlying36 hi hz0 hz1 hz2 rfl (by decide) _ _ _ rfl (hown.alloc _) ⟨wr.heap.size, 0, none⟩ 1 1 [.int .u8 (128 + ↑m % 128)] rfl rfl ?c1 ?c2 ?c3 ?c4 ?c5 ?_)
      case c1 => exact cell_one_new _ _ _
      case c2 => intro u hu; simp at hu; subst hu; rfl
      case c3 => unfold maxLen; omega
      case c4 => omega
      case c5 => have := hnx.size; simp; omega
      intro v' w1 hown1 hgrow _
      have hown2 : w1.ownsRow w.heap.size 5 1 v' (pre ++ [((128 + m % 128 : Nat) : Int)]).length (u8s (pre ++ [((128 + m % 128 : Nat) : Int)])) := by
        rw [u8s_app, List.length_append]; exact hown1
      have hb1 : Below w.heap.size w w1 := (hnx.alloc hnx.size _).grown hgrow (by have := hnx.size; simp; omega) (hown.lt · · |>.1)
      clear hown1 hgrow
      go_wp2
      go_roundw
      case rel => exact ⟨m / 128, _, by go_num, by omega, HE, hown2, hb1⟩
      case measure => simp [intOf]; omega
    · have hpl : pre.length ≤ 6 := by have := congrArg List.length he.out; simp at this; omega
      have e1 := enc_small (by omega : m < 128)
      have HE : Hid (pre ++ [(m : Int)] = enc n) := by show _ = enc n; rw [← he.out, e1]
      clear e1
      go_wp2_with (at_builtin; refine wpList_append_own _ rfl _ _ 36 rfl w.heap.size 5 i0 (.int .u8 0) 1 1 Try.underlying36 hi hz0 hz1 hz2 rfl (by decide) _ _ _ rfl (hown.alloc _) ⟨wr.heap.size, 0, none⟩ 1 1 [.int .u8 ↑m] rfl rfl ?c1 ?c2 ?c3 ?c4 ?c5 ?_)
      case c1 => exact cell_one_new _ _ _
      case c2 => intro u hu; simp at hu; subst hu; rfl
      case c3 => unfold maxLen; omega
      case c4 => omega
      case c5 => have := hnx.size; simp; omega
      intro v' w1 hown1 hgrow _
      have hown2 : w1.ownsRow w.heap.size 5 1 v' (pre ++ [(m : Int)]).length (u8s (pre ++ [(m : Int)])) := by
        rw [u8s_app, List.length_append]; exact hown1
      have hb1 : Below w.heap.size w w1 := (hnx.alloc hnx.size _).grown hgrow (by have := hnx.size; simp; omega) (hown.lt · · |>.1)
      clear hown1 hgrow
      rw [HE.out] at hown2
      go_wp2
      go_ret2
      exact ⟨v', rfl, hown2, hb1⟩

theorem refnumber_row (n : Nat) (hn : n < 1099511627776) (w : World) : Calls Try.prog 84 #[.int .i64 n] w (NumPost n w) :=
  (refnumber_own n hn w).mono fun _ _ ⟨_, he, ho, hb⟩ => by subst he; exact NumPost.of ho hb

set_option maxHeartbeats 400000 in
theorem refnumber_none (n : Int) (hn : n < 0 ∨ 1099511627776 ≤ n) (w : World) :
    Calls Try.prog 84 #[.int .i64 n] w fun e w' => e = .returned (.tuple #[.slice none 0 0, .bool false]) ∧ w = w' := by
  by_cases h : n < 0
  · clear hn
    go_enter Try.func84, Try.ntmps84
    go_wp2
    go_ret2
    exact ⟨rfl, rfl⟩
  · have h1 : 0 ≤ n := by omega
    have h2 : 1099511627775 < n := by omega
    clear hn h
    go_enter Try.func84, Try.ntmps84
    go_wp2
    go_ret2
    exact ⟨rfl, rfl⟩

end Go.Proofs.Ytdopgdaobpcbjaa
