/- The contracts of within, isNode, named, filled of package msgs. -/
import Derived.Test.YtiffmjfbdidgkaaGreatOS5
import Derived.Test.YtiffmjfbdidgkaaGreatOS1
namespace Go.Proofs.YtiffmjfbdidgkaaGreat
open Go.RowKit

set_option maxHeartbeats 400000 in
theorem mwithin (n lo hi : Int) (w : World) : Calls Tryz.prog 14 #[.int .i64 n, .int .i64 lo, .int .i64 hi] w fun e w' => e = .returned (.bool (decide (lo ≤ n) && decide (n ≤ hi))) ∧ w' = w := by
  by_cases h1 : lo ≤ n
  · have t1 : decide (lo ≤ n) = true := decide_eq_true h1
    clear h1
    go_enter Tryz.func14, Tryz.ntmps14
    go_wp2
    go_ret
    exact ⟨by rw [t1]; rfl, rfl⟩
  · have t1 : decide (lo ≤ n) = false := decide_eq_false h1
    clear h1
    go_enter Tryz.func14, Tryz.ntmps14
    go_wp2
    go_ret
    exact ⟨by rw [t1]; rfl, rfl⟩
/-- Marks as a number. -/
def sumB : List Bool → Nat → Nat
  | [], _ => 0
  | b :: l, k => (if b then 2 ^ k else 0) + sumB l (k + 1)
def Mg.marks (m : Mg) : List Bool := [m.vw != 0, m.ins != 0, m.sq != 0, m.rs != 0, (m.bt.length : Int) != 0, (m.vs.length : Int) != 0, (m.cs.length : Int) != 0, (m.ps.length : Int) != 0]
def fillS (m : Mg) : Int := (sumB m.marks 0 : Nat)
theorem idx8_0 (a b c d e f g h : Int) (w : World) : (Instr.index 134 (.agg #[.int .i64 a, .int .i64 b, .int .i64 c, .int .i64 d, .int .i64 e, .int .i64 f, .int .i64 g, .int .i64 h]) (.int .i64 0)).run Tryz.prog w = .ok (.int .i64 a) w := by kernel_rfl
theorem idx8_1 (a b c d e f g h : Int) (w : World) : (Instr.index 134 (.agg #[.int .i64 a, .int .i64 b, .int .i64 c, .int .i64 d, .int .i64 e, .int .i64 f, .int .i64 g, .int .i64 h]) (.int .i64 1)).run Tryz.prog w = .ok (.int .i64 b) w := by kernel_rfl
theorem idx8_2 (a b c d e f g h : Int) (w : World) : (Instr.index 134 (.agg #[.int .i64 a, .int .i64 b, .int .i64 c, .int .i64 d, .int .i64 e, .int .i64 f, .int .i64 g, .int .i64 h]) (.int .i64 2)).run Tryz.prog w = .ok (.int .i64 c) w := by kernel_rfl
theorem idx8_3 (a b c d e f g h : Int) (w : World) : (Instr.index 134 (.agg #[.int .i64 a, .int .i64 b, .int .i64 c, .int .i64 d, .int .i64 e, .int .i64 f, .int .i64 g, .int .i64 h]) (.int .i64 3)).run Tryz.prog w = .ok (.int .i64 d) w := by kernel_rfl
theorem idx8_4 (a b c d e f g h : Int) (w : World) : (Instr.index 134 (.agg #[.int .i64 a, .int .i64 b, .int .i64 c, .int .i64 d, .int .i64 e, .int .i64 f, .int .i64 g, .int .i64 h]) (.int .i64 4)).run Tryz.prog w = .ok (.int .i64 e) w := by kernel_rfl
theorem idx8_5 (a b c d e f g h : Int) (w : World) : (Instr.index 134 (.agg #[.int .i64 a, .int .i64 b, .int .i64 c, .int .i64 d, .int .i64 e, .int .i64 f, .int .i64 g, .int .i64 h]) (.int .i64 5)).run Tryz.prog w = .ok (.int .i64 f) w := by kernel_rfl
theorem idx8_6 (a b c d e f g h : Int) (w : World) : (Instr.index 134 (.agg #[.int .i64 a, .int .i64 b, .int .i64 c, .int .i64 d, .int .i64 e, .int .i64 f, .int .i64 g, .int .i64 h]) (.int .i64 6)).run Tryz.prog w = .ok (.int .i64 g) w := by kernel_rfl
theorem idx8_7 (a b c d e f g h : Int) (w : World) : (Instr.index 134 (.agg #[.int .i64 a, .int .i64 b, .int .i64 c, .int .i64 d, .int .i64 e, .int .i64 f, .int .i64 g, .int .i64 h]) (.int .i64 7)).run Tryz.prog w = .ok (.int .i64 h) w := by kernel_rfl
theorem or_fin (k : Fin 8) (s : Fin (2 ^ k.val)) : bits .or .i64 (s.val : Int) ((2 ^ k.val : Nat) : Int) = ((s.val + 2 ^ k.val : Nat) : Int) := by
  revert k s
  decide +kernel
theorem sumB_lt : ∀ (l : List Bool) (k : Nat), sumB l k + 2 ^ k ≤ 2 ^ (k + l.length)
  | [], k => by simp [sumB]
  | b :: l, k => by
    have := sumB_lt l (k + 1)
    rw [Nat.pow_succ, show k + 1 + l.length = k + (b :: l).length by simp; omega] at this
    unfold sumB
    split <;> omega
theorem sumB_snoc : ∀ (l : List Bool) (b : Bool) (k : Nat), sumB (l ++ [b]) k = sumB l k + (if b then 2 ^ (k + l.length) else 0)
  | [], b, k => by simp [sumB]
  | c :: l, b, k => by
    have := sumB_snoc l b (k + 1)
    rw [List.cons_append]
    unfold sumB
    rw [this, show k + 1 + l.length = k + (c :: l).length by simp; omega]
    omega
/-- One mark more. -/
theorem or_more {l : List Bool} {k : Nat} (hk : k < 8) (hl : l.length = k) {c : Int} (hc : c = ((2 ^ k : Nat) : Int)) : bits .or .i64 (sumB l 0 : Nat) c = (sumB (l ++ [true]) 0 : Nat) := by
  have h1 := sumB_lt l 0
  rw [hl] at h1
  have h2 := or_fin ⟨k, hk⟩ ⟨sumB l 0, by simp at h1 ⊢; omega⟩
  rw [sumB_snoc, hl, hc]
  simpa using h2
theorem or_less {l : List Bool} : (sumB (l ++ [false]) 0 : Nat) = sumB l 0 := by rw [sumB_snoc]; simp
structure FiSt (m : Mg) (k : Nat) (z : Int) : Prop where
  is : z = (sumB (m.marks.take k) 0 : Nat)
set_option maxHeartbeats 4000000 in
theorem mfilled (x : Ms) (w : World) : Calls Tryz.prog 59 #[.agg #[.int .i64 x.m.kd, .int .i64 x.m.fr, .int .i64 x.m.vw, .int .i64 x.m.ins, .int .i64 x.m.sq, .int .i64 x.m.rs, .slice x.A1 x.m.bt.length x.c1, .slice x.A2 x.m.vs.length x.c2, .slice x.A3 x.m.cs.length x.c3, .slice x.A4 x.m.ps.length x.c4]] w fun e w' => e = .returned (.int .i64 (fillS x.m)) ∧ Below w.heap.size w w' := by
  have HB := Lib.hid (show Below w.heap.size w (w.alloc (.cells #[.int .i64 x.m.kd, .int .i64 x.m.fr, .int .i64 x.m.vw, .int .i64 x.m.ins, .int .i64 x.m.sq, .int .i64 x.m.rs, .slice x.A1 x.m.bt.length x.c1, .slice x.A2 x.m.vs.length x.c2, .slice x.A3 x.m.cs.length x.c3, .slice x.A4 x.m.ps.length x.c4] 35)) from (Below.refl _ w).alloc (Nat.le_refl _) _)
  go_enter Tryz.func59, Tryz.ntmps59
  go_wp2_with fail
  obtain ⟨w0, hw0⟩ : ∃ w0, (w.alloc (.cells #[.int .i64 x.m.kd, .int .i64 x.m.fr, .int .i64 x.m.vw, .int .i64 x.m.ins, .int .i64 x.m.sq, .int .i64 x.m.rs, .slice x.A1 x.m.bt.length x.c1, .slice x.A2 x.m.vs.length x.c2, .slice x.A3 x.m.cs.length x.c3, .slice x.A4 x.m.ps.length x.c4] 35)) = w0 := ⟨_, rfl⟩
  rw [hw0] at HB ⊢
  clear hw0
  go_loopw [27, 3] (fun v s wr => wr = w0 ∧ ∃ (k : Nat) (z : Int), v = .int .i64 k ∧ s = .int .i64 z ∧ k ≤ 8 ∧ Hid (FiSt x.m k z)) (fun v _ _ => 8 - (intOf v).toNat)
  case atStart => exact ⟨rfl, 0, 0, rfl, rfl, by omega, ⟨rfl⟩⟩
  case round =>
    obtain ⟨rfl, k, z, rfl, rfl, hk, HT⟩ := hrel
    by_cases hlt : k < 8
    · have hcs : k = 0 ∨ k = 1 ∨ k = 2 ∨ k = 3 ∨ k = 4 ∨ k = 5 ∨ k = 6 ∨ k = 7 := by omega
      rcases hcs with rfl | rfl | rfl | rfl | rfl | rfl | rfl | rfl
      · have Q := idx8_0
        by_cases hz : x.m.vw = 0
        · have t0 : (x.m.vw != 0) = false := by simp [hz]
          have HN := Lib.hid (show FiSt x.m 1 z from ⟨by rw [HT.out.is, show x.m.marks.take 1 = x.m.marks.take 0 ++ [false] by rw [← t0]; rfl, or_less]⟩)
          clear hz
          go_wp2_with fail
          go_roundw
          case rel => exact ⟨trivial, 1, z, by go_num, rfl, by decide, HN.out⟩
          case measure => simp [intOf]
        · have t0 : (x.m.vw != 0) = true := by simpa using hz
          have HN := Lib.hid (show FiSt x.m 1 (bits .or .i64 z 1) from ⟨by rw [HT.out.is, show x.m.marks.take 1 = x.m.marks.take 0 ++ [true] by rw [← t0]; rfl]; exact or_more (k := 0) (by decide) rfl rfl⟩)
          clear hz
          go_wp2_with fail
          go_roundw
          case rel => exact ⟨trivial, 1, _, by go_num, rfl, by decide, HN.out⟩
          case measure => simp [intOf]
      · have Q := idx8_1
        by_cases hz : x.m.ins = 0
        · have t0 : (x.m.ins != 0) = false := by simp [hz]
          have HN := Lib.hid (show FiSt x.m 2 z from ⟨by rw [HT.out.is, show x.m.marks.take 2 = x.m.marks.take 1 ++ [false] by rw [← t0]; rfl, or_less]⟩)
          clear hz
          go_wp2_with fail
          go_roundw
          case rel => exact ⟨trivial, 2, z, by go_num, rfl, by decide, HN.out⟩
          case measure => simp [intOf]
        · have t0 : (x.m.ins != 0) = true := by simpa using hz
          have HN := Lib.hid (show FiSt x.m 2 (bits .or .i64 z 2) from ⟨by rw [HT.out.is, show x.m.marks.take 2 = x.m.marks.take 1 ++ [true] by rw [← t0]; rfl]; exact or_more (k := 1) (by decide) rfl rfl⟩)
          clear hz
          go_wp2_with fail
          go_roundw
          case rel => exact ⟨trivial, 2, _, by go_num, rfl, by decide, HN.out⟩
          case measure => simp [intOf]
      · have Q := idx8_2
        by_cases hz : x.m.sq = 0
        · have t0 : (x.m.sq != 0) = false := by simp [hz]
          have HN := Lib.hid (show FiSt x.m 3 z from ⟨by rw [HT.out.is, show x.m.marks.take 3 = x.m.marks.take 2 ++ [false] by rw [← t0]; rfl, or_less]⟩)
          clear hz
          go_wp2_with fail
          go_roundw
          case rel => exact ⟨trivial, 3, z, by go_num, rfl, by decide, HN.out⟩
          case measure => simp [intOf]
        · have t0 : (x.m.sq != 0) = true := by simpa using hz
          have HN := Lib.hid (show FiSt x.m 3 (bits .or .i64 z 4) from ⟨by rw [HT.out.is, show x.m.marks.take 3 = x.m.marks.take 2 ++ [true] by rw [← t0]; rfl]; exact or_more (k := 2) (by decide) rfl rfl⟩)
          clear hz
          go_wp2_with fail
          go_roundw
          case rel => exact ⟨trivial, 3, _, by go_num, rfl, by decide, HN.out⟩
          case measure => simp [intOf]
      · have Q := idx8_3
        by_cases hz : x.m.rs = 0
        · have t0 : (x.m.rs != 0) = false := by simp [hz]
          have HN := Lib.hid (show FiSt x.m 4 z from ⟨by rw [HT.out.is, show x.m.marks.take 4 = x.m.marks.take 3 ++ [false] by rw [← t0]; rfl, or_less]⟩)
          clear hz
          go_wp2_with fail
          go_roundw
          case rel => exact ⟨trivial, 4, z, by go_num, rfl, by decide, HN.out⟩
          case measure => simp [intOf]
        · have t0 : (x.m.rs != 0) = true := by simpa using hz
          have HN := Lib.hid (show FiSt x.m 4 (bits .or .i64 z 8) from ⟨by rw [HT.out.is, show x.m.marks.take 4 = x.m.marks.take 3 ++ [true] by rw [← t0]; rfl]; exact or_more (k := 3) (by decide) rfl rfl⟩)
          clear hz
          go_wp2_with fail
          go_roundw
          case rel => exact ⟨trivial, 4, _, by go_num, rfl, by decide, HN.out⟩
          case measure => simp [intOf]
      · have Q := idx8_4
        by_cases hz : (x.m.bt.length : Int) = 0
        · have t0 : ((x.m.bt.length : Int) != 0) = false := by simp [hz]
          have HN := Lib.hid (show FiSt x.m 5 z from ⟨by rw [HT.out.is, show x.m.marks.take 5 = x.m.marks.take 4 ++ [false] by rw [← t0]; rfl, or_less]⟩)
          clear hz
          go_wp2_with fail
          go_roundw
          case rel => exact ⟨trivial, 5, z, by go_num, rfl, by decide, HN.out⟩
          case measure => simp [intOf]
        · have t0 : ((x.m.bt.length : Int) != 0) = true := by simpa using hz
          have HN := Lib.hid (show FiSt x.m 5 (bits .or .i64 z 16) from ⟨by rw [HT.out.is, show x.m.marks.take 5 = x.m.marks.take 4 ++ [true] by rw [← t0]; rfl]; exact or_more (k := 4) (by decide) rfl rfl⟩)
          clear hz
          go_wp2_with fail
          go_roundw
          case rel => exact ⟨trivial, 5, _, by go_num, rfl, by decide, HN.out⟩
          case measure => simp [intOf]
      · have Q := idx8_5
        by_cases hz : (x.m.vs.length : Int) = 0
        · have t0 : ((x.m.vs.length : Int) != 0) = false := by simp [hz]
          have HN := Lib.hid (show FiSt x.m 6 z from ⟨by rw [HT.out.is, show x.m.marks.take 6 = x.m.marks.take 5 ++ [false] by rw [← t0]; rfl, or_less]⟩)
          clear hz
          go_wp2_with fail
          go_roundw
          case rel => exact ⟨trivial, 6, z, by go_num, rfl, by decide, HN.out⟩
          case measure => simp [intOf]
        · have t0 : ((x.m.vs.length : Int) != 0) = true := by simpa using hz
          have HN := Lib.hid (show FiSt x.m 6 (bits .or .i64 z 32) from ⟨by rw [HT.out.is, show x.m.marks.take 6 = x.m.marks.take 5 ++ [true] by rw [← t0]; rfl]; exact or_more (k := 5) (by decide) rfl rfl⟩)
          clear hz
          go_wp2_with fail
          go_roundw
          case rel => exact ⟨trivial, 6, _, by go_num, rfl, by decide, HN.out⟩
          case measure => simp [intOf]
      · have Q := idx8_6
        by_cases hz : (x.m.cs.length : Int) = 0
        · have t0 : ((x.m.cs.length : Int) != 0) = false := by simp [hz]
          have HN := Lib.hid (show FiSt x.m 7 z from ⟨by rw [HT.out.is, show x.m.marks.take 7 = x.m.marks.take 6 ++ [false] by rw [← t0]; rfl, or_less]⟩)
          clear hz
          go_wp2_with fail
          go_roundw
          case rel => exact ⟨trivial, 7, z, by go_num, rfl, by decide, HN.out⟩
          case measure => simp [intOf]
        · have t0 : ((x.m.cs.length : Int) != 0) = true := by simpa using hz
          have HN := Lib.hid (show FiSt x.m 7 (bits .or .i64 z 64) from ⟨by rw [HT.out.is, show x.m.marks.take 7 = x.m.marks.take 6 ++ [true] by rw [← t0]; rfl]; exact or_more (k := 6) (by decide) rfl rfl⟩)
          clear hz
          go_wp2_with fail
          go_roundw
          case rel => exact ⟨trivial, 7, _, by go_num, rfl, by decide, HN.out⟩
          case measure => simp [intOf]
      · have Q := idx8_7
        by_cases hz : (x.m.ps.length : Int) = 0
        · have t0 : ((x.m.ps.length : Int) != 0) = false := by simp [hz]
          have HN := Lib.hid (show FiSt x.m 8 z from ⟨by rw [HT.out.is, show x.m.marks.take 8 = x.m.marks.take 7 ++ [false] by rw [← t0]; rfl, or_less]⟩)
          clear hz
          go_wp2_with fail
          go_roundw
          case rel => exact ⟨trivial, 8, z, by go_num, rfl, by decide, HN.out⟩
          case measure => simp [intOf]
        · have t0 : ((x.m.ps.length : Int) != 0) = true := by simpa using hz
          have HN := Lib.hid (show FiSt x.m 8 (bits .or .i64 z 128) from ⟨by rw [HT.out.is, show x.m.marks.take 8 = x.m.marks.take 7 ++ [true] by rw [← t0]; rfl]; exact or_more (k := 7) (by decide) rfl rfl⟩)
          clear hz
          go_wp2_with fail
          go_roundw
          case rel => exact ⟨trivial, 8, _, by go_num, rfl, by decide, HN.out⟩
          case measure => simp [intOf]
    · obtain rfl : k = 8 := by omega
      have HN := Lib.hid HT.out.is
      go_wp2_with fail
      go_ret
      exact ⟨by rw [HN.out]; rfl, HB.out⟩
def nameS (k : Int) : Int := if k = 1 then 16 else if k = 2 then 16 else if k = 3 then 23 else if k = 4 then 23 else if k = 5 then 23 else if k = 6 then 1 else if k = 7 then 97 else if k = 8 then 131 else if k = 9 then 64 else if k = 10 then 14 else 0
set_option maxHeartbeats 2000000 in
theorem mnamed (k : Int) (w : World) : Calls Tryz.prog 60 #[.int .i64 k] w fun e w' => e = .returned (.int .i64 (nameS k)) ∧ w' = w := by
  by_cases h1 : k = 1
  case pos =>
    subst h1
    go_enter Tryz.func60, Tryz.ntmps60
    go_wp2
    go_ret
    exact ⟨rfl, rfl⟩
  by_cases h2 : k = 2
  case pos =>
    subst h2
    go_enter Tryz.func60, Tryz.ntmps60
    go_wp2
    go_ret
    exact ⟨rfl, rfl⟩
  by_cases h3 : k = 3
  case pos =>
    subst h3
    go_enter Tryz.func60, Tryz.ntmps60
    go_wp2
    go_ret
    exact ⟨rfl, rfl⟩
  by_cases h4 : k = 4
  case pos =>
    subst h4
    go_enter Tryz.func60, Tryz.ntmps60
    go_wp2
    go_ret
    exact ⟨rfl, rfl⟩
  by_cases h5 : k = 5
  case pos =>
    subst h5
    go_enter Tryz.func60, Tryz.ntmps60
    go_wp2
    go_ret
    exact ⟨rfl, rfl⟩
  by_cases h6 : k = 6
  case pos =>
    subst h6
    go_enter Tryz.func60, Tryz.ntmps60
    go_wp2
    go_ret
    exact ⟨rfl, rfl⟩
  by_cases h7 : k = 7
  case pos =>
    subst h7
    go_enter Tryz.func60, Tryz.ntmps60
    go_wp2
    go_ret
    exact ⟨rfl, rfl⟩
  by_cases h8 : k = 8
  case pos =>
    subst h8
    go_enter Tryz.func60, Tryz.ntmps60
    go_wp2
    go_ret
    exact ⟨rfl, rfl⟩
  by_cases h9 : k = 9
  case pos =>
    subst h9
    go_enter Tryz.func60, Tryz.ntmps60
    go_wp2
    go_ret
    exact ⟨rfl, rfl⟩
  by_cases h10 : k = 10
  case pos =>
    subst h10
    go_enter Tryz.func60, Tryz.ntmps60
    go_wp2
    go_ret
    exact ⟨rfl, rfl⟩
  have t1 : (k == 1) = false := by simpa using h1
  have t2 : (k == 2) = false := by simpa using h2
  have t3 : (k == 3) = false := by simpa using h3
  have t4 : (k == 4) = false := by simpa using h4
  have t5 : (k == 5) = false := by simpa using h5
  have t6 : (k == 6) = false := by simpa using h6
  have t7 : (k == 7) = false := by simpa using h7
  have t8 : (k == 8) = false := by simpa using h8
  have t9 : (k == 9) = false := by simpa using h9
  have t10 : (k == 10) = false := by simpa using h10
  have HN := Lib.hid (show nameS k = 0 by unfold nameS; simp only [if_neg h1, if_neg h2, if_neg h3, if_neg h4, if_neg h5, if_neg h6, if_neg h7, if_neg h8, if_neg h9, if_neg h10])
  clear h1 h2 h3 h4 h5 h6 h7 h8 h9 h10
  go_enter Tryz.func60, Tryz.ntmps60
  go_wp2
  go_ret
  exact ⟨by rw [HN.out]; rfl, rfl⟩
end Go.Proofs.YtiffmjfbdidgkaaGreat
