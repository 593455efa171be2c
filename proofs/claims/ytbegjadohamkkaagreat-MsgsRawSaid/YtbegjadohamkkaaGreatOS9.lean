/- A message that is parsed has short lists; a turned envelope of one seal does not open. Nothing of the program but Short. -/
import Derived.Test.YtbegjadohamkkaaGreatOMsgNode
import Derived.Test.YtbegjadohamkkaaGreatOMsgUnseal
import Derived.Test.YtbegjadohamkkaaGreatOS6
import Derived.Test.YtbegjadohamkkaaGreatORefBlank_b
import Derived.Test.YtbegjadohamkkaaGreatOS5
import Derived.Test.YtbegjadohamkkaaGreatORefBlank_c
import Derived.Test.YtbegjadohamkkaaGreatOS7
namespace Go.Proofs.YtbegjadohamkkaaGreat

end Go.Proofs.YtbegjadohamkkaaGreat
/- The contract of msgs.Form: whatever message, it tells what the document says. -/
namespace Go.Proofs.YtbegjadohamkkaaGreat
open Go.RowKit Go.Sort

def mark8 (b : List Bool) (c : Int) : Bool := bits .andNot .i64 (sumB b 0 : Nat) c == 0
theorem mark_b (b0 b1 b2 b3 b4 b5 b6 b7 : Bool) : mark8 [b0, b1, b2, b3, b4, b5, b6, b7] 16 = (!b0 && !b1 && !b2 && !b3 && !b5 && !b6 && !b7) := by revert b0 b1 b2 b3 b4 b5 b6 b7; decide +kernel
theorem mark_visb (b0 b1 b2 b3 b4 b5 b6 b7 : Bool) : mark8 [b0, b1, b2, b3, b4, b5, b6, b7] 23 = (!b3 && !b5 && !b6 && !b7) := by revert b0 b1 b2 b3 b4 b5 b6 b7; decide +kernel
theorem mark_v (b0 b1 b2 b3 b4 b5 b6 b7 : Bool) : mark8 [b0, b1, b2, b3, b4, b5, b6, b7] 1 = (!b1 && !b2 && !b3 && !b4 && !b5 && !b6 && !b7) := by revert b0 b1 b2 b3 b4 b5 b6 b7; decide +kernel
theorem mark_voc (b0 b1 b2 b3 b4 b5 b6 b7 : Bool) : mark8 [b0, b1, b2, b3, b4, b5, b6, b7] 97 = (!b1 && !b2 && !b3 && !b4 && !b7) := by revert b0 b1 b2 b3 b4 b5 b6 b7; decide +kernel
theorem mark_vip (b0 b1 b2 b3 b4 b5 b6 b7 : Bool) : mark8 [b0, b1, b2, b3, b4, b5, b6, b7] 131 = (!b2 && !b3 && !b4 && !b5 && !b6) := by revert b0 b1 b2 b3 b4 b5 b6 b7; decide +kernel
theorem mark_c (b0 b1 b2 b3 b4 b5 b6 b7 : Bool) : mark8 [b0, b1, b2, b3, b4, b5, b6, b7] 64 = (!b0 && !b1 && !b2 && !b3 && !b4 && !b5 && !b7) := by revert b0 b1 b2 b3 b4 b5 b6 b7; decide +kernel
theorem mark_isr (b0 b1 b2 b3 b4 b5 b6 b7 : Bool) : mark8 [b0, b1, b2, b3, b4, b5, b6, b7] 14 = (!b0 && !b4 && !b5 && !b6 && !b7) := by revert b0 b1 b2 b3 b4 b5 b6 b7; decide +kernel
theorem len_is {α : Type} (l : List α) : ((l.length : Int) == 0) = (l.length == 0) := by rw [Bool.eq_iff_iff]; simp
theorem int_zero (z : Int) : (!(z != 0)) = (z == 0) := by simp [bne]
/-- What nodeForm tells. -/
def nodeS (m : Mg) (f n : Int) : Bool :=
  if m.kd = 2 then oneS m.bt n
  else if m.kd = 3 then decide (m.bt ≠ []) && voteS m f n && (m.fr == primaryS f m.vw m.ins)
  else if m.kd = 4 ∨ m.kd = 5 then voteS m f n
  else if m.kd = 6 then decide (0 ≤ m.vw) && decide (m.vw ≤ 11)
  else if m.kd = 7 then leavesS m.vw m.vs m.cs f n
  else if m.kd = 8 then decide (1 ≤ m.vw ∧ m.vw ≤ 12) && (m.fr == primaryS f m.vw m.ins) && partsS m.vw m.ps f n
  else if m.kd = 9 then oneC m.cs f n
  else if m.kd = 10 then decide (0 ≤ m.ins ∧ m.ins < n ∧ 1 ≤ m.sq ∧ m.sq ≤ 1048576 ∧ -549755813888 < m.rs ∧ m.rs < 549755813888)
  else false
theorem mnodeform (x : Ms) {w : World} (h : x.In w w.heap.size) (hs : x.m.Short) (f n : Int) (hf : 1 ≤ f ∧ f ≤ 4) :
    Calls Tryz.prog 91 #[.agg #[.int .i64 x.m.kd, .int .i64 x.m.fr, .int .i64 x.m.vw, .int .i64 x.m.ins, .int .i64 x.m.sq, .int .i64 x.m.rs, .slice x.A1 x.m.bt.length x.c1, .slice x.A2 x.m.vs.length x.c2, .slice x.A3 x.m.cs.length x.c3, .slice x.A4 x.m.ps.length x.c4], .int .i64 f, .int .i64 n] w fun e w' => e = .returned (.bool (nodeS x.m f n)) ∧ Below w.heap.size w w' := by
  unfold nodeS
  split
  · exact nodeform2 x ‹_› h hs f n hf
  split
  · exact nodeform3 x ‹_› h hs f n hf
  split
  · rename_i h45
    rcases h45 with h4 | h5
    · exact nodeform4 x h4 h hs f n hf
    · exact nodeform5 x h5 h hs f n hf
  split
  · exact nodeform6 x ‹_› f n w
  split
  · exact nodeform7 x ‹_› h hs f n hf
  split
  · exact nodeform8 x ‹_› h hs f n hf
  split
  · exact nodeform9 x ‹_› h hs f n hf
  split
  · exact nodeform10 x ‹_› h hs f n hf
  · exact nodeform_no x (by omega) f n w
theorem named_is (m : Mg) (c : Int) (h : nameS m.kd = c) : namedS m = mark8 [m.vw != 0, m.ins != 0, m.sq != 0, m.rs != 0, (m.bt.length : Int) != 0, (m.vs.length : Int) != 0, (m.cs.length : Int) != 0, (m.ps.length : Int) != 0] c := by
  unfold namedS mark8 fillS Mg.marks; rw [h]
theorem reqS_is (m : Mg) (n : Int) : reqS m n = (match m.bt with | [r] => validS r n && decide (m.fr = 100 + r.cl) | _ => false) := rfl
theorem oneS_self (l : List Rq) (n : Int) : oneS l n = (match l with | [r] => validS r n | _ => false) := rfl
theorem oneC_self (l : List Ct) (f n : Int) : oneC l f n = (match l with | [c] => certS f n c | _ => false) := rfl
theorem isNode_is (m : Mg) (f : Int) : isNodeS m.fr f = decide (0 ≤ m.fr ∧ m.fr < 3 * f + 1) := by unfold isNodeS; rw [Bool.eq_iff_iff]; simp; omega
theorem prim_in {f v i z : Int} (h : 0 ≤ z) (e : z = primaryS f v i) : 0 ≤ i ∧ i ≤ f := by
  unfold primaryS at e
  split at e
  · rename_i h1; exact ⟨h1.2.2.2.1, h1.2.2.2.2⟩
  · omega
theorem formW_is (m : Mg) (f n : Int) : formW m f (reqS m n) (nodeS m f n) = formS m f n := by
  unfold formW formS inF
  rw [show (decide (1 ≤ f) && decide (f ≤ 4)) = decide (1 ≤ f ∧ f ≤ 4) by rw [Bool.eq_iff_iff]; simp]
  congr 1
  rw [isNode_is]
  by_cases h1 : m.kd = 1
  · rw [if_pos h1, if_pos h1, named_is m 16 (by unfold nameS; rw [if_pos h1]), mark_b]
    simp only [int_zero, len_is, blankS, reqS_is, Bool.false_or, Bool.true_or, Bool.and_true]
    rfl
  rw [if_neg h1, if_neg h1]
  cases hn : decide (0 ≤ m.fr ∧ m.fr < 3 * f + 1)
  · simp
  have h0 : 0 ≤ m.fr := (of_decide_eq_true hn).1
  simp only [Bool.true_and]
  unfold nodeS
  by_cases h2 : m.kd = 2
  · rw [if_pos h2, if_pos h2, named_is m 16 (by rw [h2]; rfl), mark_b]
    simp only [int_zero, len_is, blankS, oneS_self, Bool.false_or, Bool.true_or, Bool.and_true]
    rfl
  rw [if_neg h2, if_neg h2]
  by_cases h3 : m.kd = 3
  · rw [if_pos h3, if_pos h3, named_is m 23 (by rw [h3]; rfl), mark_visb]
    rw [Bool.eq_iff_iff]
    simp only [int_zero, len_is, blankS, voteS, Bool.false_or, Bool.true_or, Bool.true_and, Bool.and_true]
    simp only [Bool.and_eq_true, decide_eq_true_eq, beq_iff_eq]
    constructor
    · rintro ⟨a, ⟨⟨b, c, d⟩, e⟩⟩; exact ⟨⟨⟨⟨a, c⟩, d⟩, b⟩, e⟩
    · rintro ⟨⟨⟨⟨a, c⟩, d⟩, b⟩, e⟩; exact ⟨a, ⟨⟨b, c, d⟩, e⟩⟩
  rw [if_neg h3, if_neg h3]
  by_cases h45 : m.kd = 4 ∨ m.kd = 5
  · rw [if_pos h45, if_pos h45, named_is m 23 (by rcases h45 with h | h <;> (rw [h]; rfl)), mark_visb]
    simp only [int_zero, len_is, blankS, voteS, Bool.false_or, Bool.true_or, Bool.true_and, Bool.and_true, Bool.and_assoc]
  rw [if_neg h45, if_neg h45]
  by_cases h6 : m.kd = 6
  · rw [if_pos h6, if_pos h6, named_is m 1 (by rw [h6]; rfl), mark_v]
    rw [Bool.eq_iff_iff]
    simp only [int_zero, len_is, blankS, Bool.false_or, Bool.true_or, Bool.true_and]
    simp only [Bool.and_eq_true, decide_eq_true_eq, beq_iff_eq]
    constructor
    · rintro ⟨a, b⟩; exact ⟨a, by omega⟩
    · rintro ⟨a, b⟩; exact ⟨a, by omega⟩
  rw [if_neg h6, if_neg h6]
  by_cases h7 : m.kd = 7
  · rw [if_pos h7, if_pos h7, named_is m 97 (by rw [h7]; rfl), mark_voc]
    simp only [int_zero, len_is, blankS, Bool.false_or, Bool.true_or, Bool.true_and, Bool.and_true]
  rw [if_neg h7, if_neg h7]
  by_cases h8 : m.kd = 8
  · rw [if_pos h8, if_pos h8, named_is m 131 (by rw [h8]; rfl), mark_vip]
    rw [Bool.eq_iff_iff]
    simp only [int_zero, len_is, blankS, Bool.false_or, Bool.true_or, Bool.true_and, Bool.and_true]
    simp only [Bool.and_eq_true, decide_eq_true_eq, beq_iff_eq]
    constructor
    · rintro ⟨a, ⟨b, c⟩, d⟩; exact ⟨⟨a, b.1, b.2, (prim_in h0 c).1, (prim_in h0 c).2, c⟩, d⟩
    · rintro ⟨⟨a, b⟩, d⟩; exact ⟨a, ⟨⟨b.1, b.2.1⟩, b.2.2.2.2⟩, d⟩
  rw [if_neg h8, if_neg h8]
  by_cases h9 : m.kd = 9
  · rw [if_pos h9, if_pos h9, named_is m 64 (by rw [h9]; rfl), mark_c]
    simp only [int_zero, len_is, blankS, oneC_self, Bool.false_or, Bool.true_or, Bool.and_true]
    rfl
  rw [if_neg h9, if_neg h9]
  by_cases h10 : m.kd = 10
  · rw [if_pos h10, if_pos h10, named_is m 14 (by rw [h10]; rfl), mark_isr]
    simp only [int_zero, len_is, blankS, Bool.false_or, Bool.true_or, Bool.and_true]
  rw [if_neg h10, if_neg h10]
  simp
theorem mform_any (x : Ms) {w : World} (h : x.In w w.heap.size) (hs : x.m.Short) (hfr : x.m.fr ≤ 9223372036854775807) (f n : Int) :
    Calls Tryz.prog 29 #[.agg #[.int .i64 x.m.kd, .int .i64 x.m.fr, .int .i64 x.m.vw, .int .i64 x.m.ins, .int .i64 x.m.sq, .int .i64 x.m.rs, .slice x.A1 x.m.bt.length x.c1, .slice x.A2 x.m.vs.length x.c2, .slice x.A3 x.m.cs.length x.c3, .slice x.A4 x.m.ps.length x.c4], .int .i64 f, .int .i64 n] w fun e w' => e = .returned (.bool (formS x.m f n)) ∧ Below w.heap.size w w' := by
  rw [← formW_is]
  exact form_with x f n _ _ w
    (fun _ _ w' hb => mrequest x (Reads.more hb.size _ _ (Reads.below hb (Nat.le_refl _) _ _ h.bt)) hfr n)
    (fun _ hf w' hb => mnodeform x (h.reads (Reads.below hb (Nat.le_refl _)) |>.reads (Reads.more hb.size)) hs f n (by simpa [inF] using hf))
end Go.Proofs.YtbegjadohamkkaaGreat
/- The contract of the document's Form where nobody may be so faulty. -/
namespace Go.Proofs.YtbegjadohamkkaaGreat
open Go.RowKit Go.Sort

theorem mono_in {w w1 : World} {y : Cs} (hb : Below w.heap.size w w1) (h : y.In w w.heap.size) : y.In w1 w1.heap.size := (h.reads (Reads.below hb (Nat.le_refl _))).reads (Reads.more hb.size)
set_option maxHeartbeats 1000000 in
set_option maxRecDepth 100000 in
theorem rform_f (x : Ms) (f n : Int) (hf : f < 1 ∨ 4 < f) (w : World) :
    Calls Tryz.prog 28 #[.agg #[.int .i64 x.m.kd, .int .i64 x.m.fr, .int .i64 x.m.vw, .int .i64 x.m.ins, .int .i64 x.m.sq, .int .i64 x.m.rs, .slice x.A1 x.m.bt.length x.c1, .slice x.A2 x.m.vs.length x.c2, .slice x.A3 x.m.cs.length x.c3, .slice x.A4 x.m.ps.length x.c4], .int .i64 f, .int .i64 n] w fun e w' => e = .returned (.bool false) ∧ Below w.heap.size w w' := by
  have HB := Lib.hid (show Below w.heap.size w (w.alloc (.cells #[.int .i64 x.m.kd, .int .i64 x.m.fr, .int .i64 x.m.vw, .int .i64 x.m.ins, .int .i64 x.m.sq, .int .i64 x.m.rs, .slice x.A1 x.m.bt.length x.c1, .slice x.A2 x.m.vs.length x.c2, .slice x.A3 x.m.cs.length x.c3, .slice x.A4 x.m.ps.length x.c4] 38)) from (Below.refl _ w).alloc (Nat.le_refl _) _)
  have KN := Lib.hid (fun w => (rnodes_any f w).mono (R' := fun e w' => e = .returned (.int .i64 0) ∧ w' = w) (fun e w' he => ⟨by rw [he.1, nodesS_out hf], he.2.symm⟩))
  clear hf
  go_enter Tryz.func28, Tryz.ntmps28
  go_wp2_with fail
  refine (KN.out _).mono ?_
  rintro e w' ⟨rfl, rfl⟩
  go_wp2_with fail
  go_ret
  exact ⟨rfl, HB.out⟩
end Go.Proofs.YtbegjadohamkkaaGreat
/- The contract of the document's Form at kind 2. -/
namespace Go.Proofs.YtbegjadohamkkaaGreat
open Go.RowKit Go.Sort

set_option maxHeartbeats 8000000 in
set_option maxRecDepth 100000 in
theorem rform2 (x : Ms) (hk : x.m.kd = 2) {w : World} (h : x.In w w.heap.size) (hs : x.m.Short) (f n : Int) (hf : 1 ≤ f ∧ f ≤ 4) (hfr : 0 ≤ x.m.fr ∧ x.m.fr < 3 * f + 1) :
    Calls Tryz.prog 28 #[.agg #[.int .i64 x.m.kd, .int .i64 x.m.fr, .int .i64 x.m.vw, .int .i64 x.m.ins, .int .i64 x.m.sq, .int .i64 x.m.rs, .slice x.A1 x.m.bt.length x.c1, .slice x.A2 x.m.vs.length x.c2, .slice x.A3 x.m.cs.length x.c3, .slice x.A4 x.m.ps.length x.c4], .int .i64 f, .int .i64 n] w fun e w' => e = .returned (.bool (blankS false false false false true false false false x.m && oneS x.m.bt n)) ∧ Below w.heap.size w w' := by
  rw [hk]
  have HB := Lib.hid (show Below w.heap.size w (w.alloc (.cells #[.int .i64 2, .int .i64 x.m.fr, .int .i64 x.m.vw, .int .i64 x.m.ins, .int .i64 x.m.sq, .int .i64 x.m.rs, .slice x.A1 x.m.bt.length x.c1, .slice x.A2 x.m.vs.length x.c2, .slice x.A3 x.m.cs.length x.c3, .slice x.A4 x.m.ps.length x.c4] 38)) from (Below.refl _ w).alloc (Nat.le_refl _) _)
  have HBl := Lib.hid (show Blk (w.alloc (.cells #[.int .i64 2, .int .i64 x.m.fr, .int .i64 x.m.vw, .int .i64 x.m.ins, .int .i64 x.m.sq, .int .i64 x.m.rs, .slice x.A1 x.m.bt.length x.c1, .slice x.A2 x.m.vs.length x.c2, .slice x.A3 x.m.cs.length x.c3, .slice x.A4 x.m.ps.length x.c4] 38)) w.heap.size 38 #[.int .i64 2, .int .i64 x.m.fr, .int .i64 x.m.vw, .int .i64 x.m.ins, .int .i64 x.m.sq, .int .i64 x.m.rs, .slice x.A1 x.m.bt.length x.c1, .slice x.A2 x.m.vs.length x.c2, .slice x.A3 x.m.cs.length x.c3, .slice x.A4 x.m.ps.length x.c4] from Blk.new _ _ _)
  have KN := Lib.hid (fun w => (rnodes_any f w).mono (R' := fun e w' => e = .returned (.int .i64 (3 * f + 1)) ∧ w' = w) (fun e w' he => ⟨by rw [he.1, nodesS_in hf.1 hf.2], he.2.symm⟩))
  have KNB := Lib.hid (fun w => (KN.out w).mono (R' := fun e w' => e = .returned (.int .i64 (3 * f + 1)) ∧ Below w.heap.size w w') (fun e w' he => ⟨he.1, by rw [he.2]; exact Below.refl _ _⟩))
  have tn : ((3 * f + 1 : Int) == 0) = false := by rw [beq_eq_false_iff_ne]; omega
  have u1 : decide (x.m.fr < 0) = false := decide_eq_false (by omega)
  have u2 : decide (3 * f + 1 ≤ x.m.fr) = false := decide_eq_false (by omega)
  have _ := hs
  have HK := Lib.hid (fun w => rblank_b x w)
  rw [hk] at HK
  cases hb : blankS false false false false true false false false x.m
  · rw [hb] at HK
    clear hb h hs hk hf hfr 
    go_enter Tryz.func28, Tryz.ntmps28
    go_wp2_with fail
    refine (KN.out _).mono ?_
    rintro e w' ⟨rfl, rfl⟩
    go_wp2_with fail
    obtain ⟨w1, hw1⟩ : ∃ w1, w.alloc (.cells #[.int .i64 2, .int .i64 x.m.fr, .int .i64 x.m.vw, .int .i64 x.m.ins, .int .i64 x.m.sq, .int .i64 x.m.rs, .slice x.A1 x.m.bt.length x.c1, .slice x.A2 x.m.vs.length x.c2, .slice x.A3 x.m.cs.length x.c3, .slice x.A4 x.m.ps.length x.c4] 38) = w1 := ⟨_, rfl⟩
    obtain ⟨g1, hg1⟩ : ∃ g1, w.heap.size = g1 := ⟨_, rfl⟩
    have HG1 := Lib.hid hg1
    have HB1 := HB
    rw [hw1] at HB1 HBl ⊢
    rw [hg1] at HBl ⊢
    clear hw1 hg1
    obtain ⟨d0, d1, d2, d3, d4, d5, d6, d7, d8, d9⟩ := blk_cells10 HBl.out
    have KQ := fun d os => Calls.regrown_of (KNB.out (grow (redrawn w1 d) os))
    refine wp_region_quiet_below (by kernel_rfl) (by kernel_rfl) ?_
    refine wq_out ?_
    iterate 7 (refine wq_do (by kernel_rfl) (fun K hK => ?_); go_simp; refine hK _ ?_; clear hK K)
    refine wq_do (by kernel_rfl) (fun K hK => ?_)
    go_simp
    apply Exists.intro
    refine ⟨fun a => ?_, hK _ ?_⟩
    · exact KQ a.d a.os
    clear hK K
    iterate 2 (refine wq_do (by kernel_rfl) (fun K hK => ?_); go_simp; refine hK _ ?_; clear hK K)
    refine wq_nil ?_
    intro _ hw'
    obtain ⟨⟨da, oa⟩, hw''⟩ := hw'
    subst hw''
    have HB2 := Lib.hid (HB1.out.trans ((below_regrown w1 da oa).mono HB1.out.size))
    clear KQ d0 d1 d2 d3 d4 d5 d6 d7 d8 d9
    have HBl3 := Lib.hid (HBl.out.below (below_regrown w1 da oa) HBl.out.lt)
    obtain ⟨w3, hw3⟩ : ∃ w3, grow (redrawn w1 da) oa = w3 := ⟨_, rfl⟩
    have HB3 := HB2
    rw [hw3] at HB3 HBl3 ⊢
    clear hw3 HB2
    have e0 := HBl3.out.cell 0
    have e1 := HBl3.out.cell 1
    have e2 := HBl3.out.cell 2
    have e3 := HBl3.out.cell 3
    have e4 := HBl3.out.cell 4
    have e5 := HBl3.out.cell 5
    have e6 := HBl3.out.cell 6
    have e7 := HBl3.out.cell 7
    have e8 := HBl3.out.cell 8
    have e9 := HBl3.out.cell 9
    simp only [List.getElem?_toArray, List.getElem?_cons_zero, List.getElem?_cons_succ] at e0 e1 e2 e3 e4 e5 e6 e7 e8 e9
    go_wp2_with fail
    refine (HK.out _).mono ?_
    rintro e w4 ⟨rfl, hb4⟩
    have HB4 := Lib.hid (HB3.out.trans (hb4.mono HB3.out.size))
    have HBl4 := Lib.hid (HBl3.out.below hb4 HBl3.out.lt)
    clear hb4 HBl3 e0 e1 e2 e3 e4 e5 e6 e7 e8 e9
    have e0 := HBl4.out.cell 0
    have e1 := HBl4.out.cell 1
    have e2 := HBl4.out.cell 2
    have e3 := HBl4.out.cell 3
    have e4 := HBl4.out.cell 4
    have e5 := HBl4.out.cell 5
    have e6 := HBl4.out.cell 6
    have e7 := HBl4.out.cell 7
    have e8 := HBl4.out.cell 8
    have e9 := HBl4.out.cell 9
    simp only [List.getElem?_toArray, List.getElem?_cons_zero, List.getElem?_cons_succ] at e0 e1 e2 e3 e4 e5 e6 e7 e8 e9
    go_wp2_with fail
    go_ret
    exact ⟨rfl, HB4.out⟩
  · rw [hb] at HK
    clear hb
    by_cases h1 : x.m.bt.length = 1
    · have HH := Lib.hid h.bt
      have HV := Lib.hid (fun r w => rvalid_any r n w)
      have h0 : 0 < x.m.bt.length := by omega
      obtain ⟨r, hr⟩ : ∃ r, x.m.bt[0] = r := ⟨_, rfl⟩
      have HE := Lib.hid (oneS_is (n := n) h1 (show x.m.bt[0]? = some r by rw [List.getElem?_eq_getElem h0, hr]))
      have t1 : ((x.m.bt.length : Int) == 1) = true := by rw [h1]; rfl
      have t2 : (0 : Int) < (x.m.bt.length : Int) := by omega
      have HR := Lib.hid hr
      rw [HE.out]
      clear h hs hk hf hfr h1 hr
      go_enter Tryz.func28, Tryz.ntmps28
      go_wp2_with fail
      refine (KN.out _).mono ?_
      rintro e w' ⟨rfl, rfl⟩
      go_wp2_with fail
      obtain ⟨w1, hw1⟩ : ∃ w1, w.alloc (.cells #[.int .i64 2, .int .i64 x.m.fr, .int .i64 x.m.vw, .int .i64 x.m.ins, .int .i64 x.m.sq, .int .i64 x.m.rs, .slice x.A1 x.m.bt.length x.c1, .slice x.A2 x.m.vs.length x.c2, .slice x.A3 x.m.cs.length x.c3, .slice x.A4 x.m.ps.length x.c4] 38) = w1 := ⟨_, rfl⟩
      obtain ⟨g1, hg1⟩ : ∃ g1, w.heap.size = g1 := ⟨_, rfl⟩
      have HG1 := Lib.hid hg1
      have HB1 := HB
      rw [hw1] at HB1 HBl ⊢
      rw [hg1] at HBl ⊢
      clear hw1 hg1
      obtain ⟨d0, d1, d2, d3, d4, d5, d6, d7, d8, d9⟩ := blk_cells10 HBl.out
      have KQ := fun d os => Calls.regrown_of (KNB.out (grow (redrawn w1 d) os))
      refine wp_region_quiet_below (by kernel_rfl) (by kernel_rfl) ?_
      refine wq_out ?_
      iterate 7 (refine wq_do (by kernel_rfl) (fun K hK => ?_); go_simp; refine hK _ ?_; clear hK K)
      refine wq_do (by kernel_rfl) (fun K hK => ?_)
      go_simp
      apply Exists.intro
      refine ⟨fun a => ?_, hK _ ?_⟩
      · exact KQ a.d a.os
      clear hK K
      iterate 2 (refine wq_do (by kernel_rfl) (fun K hK => ?_); go_simp; refine hK _ ?_; clear hK K)
      refine wq_nil ?_
      intro _ hw'
      obtain ⟨⟨da, oa⟩, hw''⟩ := hw'
      subst hw''
      have HB2 := Lib.hid (HB1.out.trans ((below_regrown w1 da oa).mono HB1.out.size))
      clear KQ d0 d1 d2 d3 d4 d5 d6 d7 d8 d9
      have HBl3 := Lib.hid (HBl.out.below (below_regrown w1 da oa) HBl.out.lt)
      obtain ⟨w3, hw3⟩ : ∃ w3, grow (redrawn w1 da) oa = w3 := ⟨_, rfl⟩
      have HB3 := HB2
      rw [hw3] at HB3 HBl3 ⊢
      clear hw3 HB2
      have e0 := HBl3.out.cell 0
      have e1 := HBl3.out.cell 1
      have e2 := HBl3.out.cell 2
      have e3 := HBl3.out.cell 3
      have e4 := HBl3.out.cell 4
      have e5 := HBl3.out.cell 5
      have e6 := HBl3.out.cell 6
      have e7 := HBl3.out.cell 7
      have e8 := HBl3.out.cell 8
      have e9 := HBl3.out.cell 9
      simp only [List.getElem?_toArray, List.getElem?_cons_zero, List.getElem?_cons_succ] at e0 e1 e2 e3 e4 e5 e6 e7 e8 e9
      go_wp2_with fail
      refine (HK.out _).mono ?_
      rintro e w4 ⟨rfl, hb4⟩
      have HB4 := Lib.hid (HB3.out.trans (hb4.mono HB3.out.size))
      have HBl4 := Lib.hid (HBl3.out.below hb4 HBl3.out.lt)
      clear hb4 HBl3 e0 e1 e2 e3 e4 e5 e6 e7 e8 e9
      have e0 := HBl4.out.cell 0
      have e1 := HBl4.out.cell 1
      have e2 := HBl4.out.cell 2
      have e3 := HBl4.out.cell 3
      have e4 := HBl4.out.cell 4
      have e5 := HBl4.out.cell 5
      have e6 := HBl4.out.cell 6
      have e7 := HBl4.out.cell 7
      have e8 := HBl4.out.cell 8
      have e9 := HBl4.out.cell 9
      simp only [List.getElem?_toArray, List.getElem?_cons_zero, List.getElem?_cons_succ] at e0 e1 e2 e3 e4 e5 e6 e7 e8 e9
      obtain ⟨a1, hA, _, c0, c1, c2, c3, c4, c5⟩ := (HH.out.below HB4.out (Nat.le_refl _)).req h0
      rw [HR.out] at c0 c1 c2 c3 c4 c5
      have ez : a1.add (0 * 6) = a1 := rfl
      rw [ez] at c0 c1 c2 c3 c4 c5
      rw [hA] at e6
      clear hA ez
      go_wp2_with fail
      refine (HV.out _ _).mono ?_
      rintro e w5 ⟨rfl, hb5⟩
      go_wp2_with fail
      go_ret
      exact ⟨by simp, HB4.out.trans (hb5.mono HB4.out.size)⟩
    · have t1 : ((x.m.bt.length : Int) == 1) = false := by rw [beq_eq_false_iff_ne]; omega
      rw [oneS_no h1]
      clear h hs hk hf hfr h1
      go_enter Tryz.func28, Tryz.ntmps28
      go_wp2_with fail
      refine (KN.out _).mono ?_
      rintro e w' ⟨rfl, rfl⟩
      go_wp2_with fail
      obtain ⟨w1, hw1⟩ : ∃ w1, w.alloc (.cells #[.int .i64 2, .int .i64 x.m.fr, .int .i64 x.m.vw, .int .i64 x.m.ins, .int .i64 x.m.sq, .int .i64 x.m.rs, .slice x.A1 x.m.bt.length x.c1, .slice x.A2 x.m.vs.length x.c2, .slice x.A3 x.m.cs.length x.c3, .slice x.A4 x.m.ps.length x.c4] 38) = w1 := ⟨_, rfl⟩
      obtain ⟨g1, hg1⟩ : ∃ g1, w.heap.size = g1 := ⟨_, rfl⟩
      have HG1 := Lib.hid hg1
      have HB1 := HB
      rw [hw1] at HB1 HBl ⊢
      rw [hg1] at HBl ⊢
      clear hw1 hg1
      obtain ⟨d0, d1, d2, d3, d4, d5, d6, d7, d8, d9⟩ := blk_cells10 HBl.out
      have KQ := fun d os => Calls.regrown_of (KNB.out (grow (redrawn w1 d) os))
      refine wp_region_quiet_below (by kernel_rfl) (by kernel_rfl) ?_
      refine wq_out ?_
      iterate 7 (refine wq_do (by kernel_rfl) (fun K hK => ?_); go_simp; refine hK _ ?_; clear hK K)
      refine wq_do (by kernel_rfl) (fun K hK => ?_)
      go_simp
      apply Exists.intro
      refine ⟨fun a => ?_, hK _ ?_⟩
      · exact KQ a.d a.os
      clear hK K
      iterate 2 (refine wq_do (by kernel_rfl) (fun K hK => ?_); go_simp; refine hK _ ?_; clear hK K)
      refine wq_nil ?_
      intro _ hw'
      obtain ⟨⟨da, oa⟩, hw''⟩ := hw'
      subst hw''
      have HB2 := Lib.hid (HB1.out.trans ((below_regrown w1 da oa).mono HB1.out.size))
      clear KQ d0 d1 d2 d3 d4 d5 d6 d7 d8 d9
      have HBl3 := Lib.hid (HBl.out.below (below_regrown w1 da oa) HBl.out.lt)
      obtain ⟨w3, hw3⟩ : ∃ w3, grow (redrawn w1 da) oa = w3 := ⟨_, rfl⟩
      have HB3 := HB2
      rw [hw3] at HB3 HBl3 ⊢
      clear hw3 HB2
      have e0 := HBl3.out.cell 0
      have e1 := HBl3.out.cell 1
      have e2 := HBl3.out.cell 2
      have e3 := HBl3.out.cell 3
      have e4 := HBl3.out.cell 4
      have e5 := HBl3.out.cell 5
      have e6 := HBl3.out.cell 6
      have e7 := HBl3.out.cell 7
      have e8 := HBl3.out.cell 8
      have e9 := HBl3.out.cell 9
      simp only [List.getElem?_toArray, List.getElem?_cons_zero, List.getElem?_cons_succ] at e0 e1 e2 e3 e4 e5 e6 e7 e8 e9
      go_wp2_with fail
      refine (HK.out _).mono ?_
      rintro e w4 ⟨rfl, hb4⟩
      have HB4 := Lib.hid (HB3.out.trans (hb4.mono HB3.out.size))
      have HBl4 := Lib.hid (HBl3.out.below hb4 HBl3.out.lt)
      clear hb4 HBl3 e0 e1 e2 e3 e4 e5 e6 e7 e8 e9
      have e0 := HBl4.out.cell 0
      have e1 := HBl4.out.cell 1
      have e2 := HBl4.out.cell 2
      have e3 := HBl4.out.cell 3
      have e4 := HBl4.out.cell 4
      have e5 := HBl4.out.cell 5
      have e6 := HBl4.out.cell 6
      have e7 := HBl4.out.cell 7
      have e8 := HBl4.out.cell 8
      have e9 := HBl4.out.cell 9
      simp only [List.getElem?_toArray, List.getElem?_cons_zero, List.getElem?_cons_succ] at e0 e1 e2 e3 e4 e5 e6 e7 e8 e9
      go_wp2_with fail
      go_ret
      exact ⟨rfl, HB4.out⟩
end Go.Proofs.YtbegjadohamkkaaGreat
/- The contract of the document's Form at kind 4. -/
namespace Go.Proofs.YtbegjadohamkkaaGreat
open Go.RowKit Go.Sort

set_option maxHeartbeats 8000000 in
set_option maxRecDepth 100000 in
theorem rform4 (x : Ms) (hk : x.m.kd = 4) {w : World} (h : x.In w w.heap.size) (hs : x.m.Short) (f n : Int) (hf : 1 ≤ f ∧ f ≤ 4) (hfr : 0 ≤ x.m.fr ∧ x.m.fr < 3 * f + 1) :
    Calls Tryz.prog 28 #[.agg #[.int .i64 x.m.kd, .int .i64 x.m.fr, .int .i64 x.m.vw, .int .i64 x.m.ins, .int .i64 x.m.sq, .int .i64 x.m.rs, .slice x.A1 x.m.bt.length x.c1, .slice x.A2 x.m.vs.length x.c2, .slice x.A3 x.m.cs.length x.c3, .slice x.A4 x.m.ps.length x.c4], .int .i64 f, .int .i64 n] w fun e w' => e = .returned (.bool (blankS true true true false true false false false x.m && (spotS x.m.vw x.m.ins x.m.sq f && fewS x.m.bt n))) ∧ Below w.heap.size w w' := by
  rw [hk]
  have HB := Lib.hid (show Below w.heap.size w (w.alloc (.cells #[.int .i64 4, .int .i64 x.m.fr, .int .i64 x.m.vw, .int .i64 x.m.ins, .int .i64 x.m.sq, .int .i64 x.m.rs, .slice x.A1 x.m.bt.length x.c1, .slice x.A2 x.m.vs.length x.c2, .slice x.A3 x.m.cs.length x.c3, .slice x.A4 x.m.ps.length x.c4] 38)) from (Below.refl _ w).alloc (Nat.le_refl _) _)
  have HBl := Lib.hid (show Blk (w.alloc (.cells #[.int .i64 4, .int .i64 x.m.fr, .int .i64 x.m.vw, .int .i64 x.m.ins, .int .i64 x.m.sq, .int .i64 x.m.rs, .slice x.A1 x.m.bt.length x.c1, .slice x.A2 x.m.vs.length x.c2, .slice x.A3 x.m.cs.length x.c3, .slice x.A4 x.m.ps.length x.c4] 38)) w.heap.size 38 #[.int .i64 4, .int .i64 x.m.fr, .int .i64 x.m.vw, .int .i64 x.m.ins, .int .i64 x.m.sq, .int .i64 x.m.rs, .slice x.A1 x.m.bt.length x.c1, .slice x.A2 x.m.vs.length x.c2, .slice x.A3 x.m.cs.length x.c3, .slice x.A4 x.m.ps.length x.c4] from Blk.new _ _ _)
  have KN := Lib.hid (fun w => (rnodes_any f w).mono (R' := fun e w' => e = .returned (.int .i64 (3 * f + 1)) ∧ w' = w) (fun e w' he => ⟨by rw [he.1, nodesS_in hf.1 hf.2], he.2.symm⟩))
  have KNB := Lib.hid (fun w => (KN.out w).mono (R' := fun e w' => e = .returned (.int .i64 (3 * f + 1)) ∧ Below w.heap.size w w') (fun e w' he => ⟨he.1, by rw [he.2]; exact Below.refl _ _⟩))
  have tn : ((3 * f + 1 : Int) == 0) = false := by rw [beq_eq_false_iff_ne]; omega
  have u1 : decide (x.m.fr < 0) = false := decide_eq_false (by omega)
  have u2 : decide (3 * f + 1 ≤ x.m.fr) = false := decide_eq_false (by omega)
  have HK := Lib.hid (fun w => rblank_visb x w)
  rw [hk] at HK
  cases hb : blankS true true true false true false false false x.m
  · rw [hb] at HK
    clear hb h hs hk hf hfr 
    go_enter Tryz.func28, Tryz.ntmps28
    go_wp2_with fail
    refine (KN.out _).mono ?_
    rintro e w' ⟨rfl, rfl⟩
    go_wp2_with fail
    obtain ⟨w1, hw1⟩ : ∃ w1, w.alloc (.cells #[.int .i64 4, .int .i64 x.m.fr, .int .i64 x.m.vw, .int .i64 x.m.ins, .int .i64 x.m.sq, .int .i64 x.m.rs, .slice x.A1 x.m.bt.length x.c1, .slice x.A2 x.m.vs.length x.c2, .slice x.A3 x.m.cs.length x.c3, .slice x.A4 x.m.ps.length x.c4] 38) = w1 := ⟨_, rfl⟩
    obtain ⟨g1, hg1⟩ : ∃ g1, w.heap.size = g1 := ⟨_, rfl⟩
    have HG1 := Lib.hid hg1
    have HB1 := HB
    rw [hw1] at HB1 HBl ⊢
    rw [hg1] at HBl ⊢
    clear hw1 hg1
    obtain ⟨d0, d1, d2, d3, d4, d5, d6, d7, d8, d9⟩ := blk_cells10 HBl.out
    have KQ := fun d os => Calls.regrown_of (KNB.out (grow (redrawn w1 d) os))
    refine wp_region_quiet_below (by kernel_rfl) (by kernel_rfl) ?_
    refine wq_out ?_
    iterate 7 (refine wq_do (by kernel_rfl) (fun K hK => ?_); go_simp; refine hK _ ?_; clear hK K)
    refine wq_do (by kernel_rfl) (fun K hK => ?_)
    go_simp
    apply Exists.intro
    refine ⟨fun a => ?_, hK _ ?_⟩
    · exact KQ a.d a.os
    clear hK K
    iterate 2 (refine wq_do (by kernel_rfl) (fun K hK => ?_); go_simp; refine hK _ ?_; clear hK K)
    refine wq_nil ?_
    intro _ hw'
    obtain ⟨⟨da, oa⟩, hw''⟩ := hw'
    subst hw''
    have HB2 := Lib.hid (HB1.out.trans ((below_regrown w1 da oa).mono HB1.out.size))
    clear KQ d0 d1 d2 d3 d4 d5 d6 d7 d8 d9
    have HBl3 := Lib.hid (HBl.out.below (below_regrown w1 da oa) HBl.out.lt)
    obtain ⟨w3, hw3⟩ : ∃ w3, grow (redrawn w1 da) oa = w3 := ⟨_, rfl⟩
    have HB3 := HB2
    rw [hw3] at HB3 HBl3 ⊢
    clear hw3 HB2
    have e0 := HBl3.out.cell 0
    have e1 := HBl3.out.cell 1
    have e2 := HBl3.out.cell 2
    have e3 := HBl3.out.cell 3
    have e4 := HBl3.out.cell 4
    have e5 := HBl3.out.cell 5
    have e6 := HBl3.out.cell 6
    have e7 := HBl3.out.cell 7
    have e8 := HBl3.out.cell 8
    have e9 := HBl3.out.cell 9
    simp only [List.getElem?_toArray, List.getElem?_cons_zero, List.getElem?_cons_succ] at e0 e1 e2 e3 e4 e5 e6 e7 e8 e9
    go_wp2_with fail
    refine (HK.out _).mono ?_
    rintro e w4 ⟨rfl, hb4⟩
    have HB4 := Lib.hid (HB3.out.trans (hb4.mono HB3.out.size))
    have HBl4 := Lib.hid (HBl3.out.below hb4 HBl3.out.lt)
    clear hb4 HBl3 e0 e1 e2 e3 e4 e5 e6 e7 e8 e9
    have e0 := HBl4.out.cell 0
    have e1 := HBl4.out.cell 1
    have e2 := HBl4.out.cell 2
    have e3 := HBl4.out.cell 3
    have e4 := HBl4.out.cell 4
    have e5 := HBl4.out.cell 5
    have e6 := HBl4.out.cell 6
    have e7 := HBl4.out.cell 7
    have e8 := HBl4.out.cell 8
    have e9 := HBl4.out.cell 9
    simp only [List.getElem?_toArray, List.getElem?_cons_zero, List.getElem?_cons_succ] at e0 e1 e2 e3 e4 e5 e6 e7 e8 e9
    go_wp2_with fail
    go_ret
    exact ⟨rfl, HB4.out⟩
  · rw [hb] at HK
    clear hb
    have HH := Lib.hid h.bt
    have HL := Lib.hid (show x.m.bt.length ≤ 9223372036854775806 by have := hs.bt; omega)
    have HP := Lib.hid (fun w => rspot_any x.m.vw x.m.ins x.m.sq f w)
    cases hsp : spotS x.m.vw x.m.ins x.m.sq f
    · rw [hsp] at HP
      clear h hs hk hf hfr hsp HH HL
      go_enter Tryz.func28, Tryz.ntmps28
      go_wp2_with fail
      refine (KN.out _).mono ?_
      rintro e w' ⟨rfl, rfl⟩
      go_wp2_with fail
      obtain ⟨w1, hw1⟩ : ∃ w1, w.alloc (.cells #[.int .i64 4, .int .i64 x.m.fr, .int .i64 x.m.vw, .int .i64 x.m.ins, .int .i64 x.m.sq, .int .i64 x.m.rs, .slice x.A1 x.m.bt.length x.c1, .slice x.A2 x.m.vs.length x.c2, .slice x.A3 x.m.cs.length x.c3, .slice x.A4 x.m.ps.length x.c4] 38) = w1 := ⟨_, rfl⟩
      obtain ⟨g1, hg1⟩ : ∃ g1, w.heap.size = g1 := ⟨_, rfl⟩
      have HG1 := Lib.hid hg1
      have HB1 := HB
      rw [hw1] at HB1 HBl ⊢
      rw [hg1] at HBl ⊢
      clear hw1 hg1
      obtain ⟨d0, d1, d2, d3, d4, d5, d6, d7, d8, d9⟩ := blk_cells10 HBl.out
      have KQ := fun d os => Calls.regrown_of (KNB.out (grow (redrawn w1 d) os))
      refine wp_region_quiet_below (by kernel_rfl) (by kernel_rfl) ?_
      refine wq_out ?_
      iterate 7 (refine wq_do (by kernel_rfl) (fun K hK => ?_); go_simp; refine hK _ ?_; clear hK K)
      refine wq_do (by kernel_rfl) (fun K hK => ?_)
      go_simp
      apply Exists.intro
      refine ⟨fun a => ?_, hK _ ?_⟩
      · exact KQ a.d a.os
      clear hK K
      iterate 2 (refine wq_do (by kernel_rfl) (fun K hK => ?_); go_simp; refine hK _ ?_; clear hK K)
      refine wq_nil ?_
      intro _ hw'
      obtain ⟨⟨da, oa⟩, hw''⟩ := hw'
      subst hw''
      have HB2 := Lib.hid (HB1.out.trans ((below_regrown w1 da oa).mono HB1.out.size))
      clear KQ d0 d1 d2 d3 d4 d5 d6 d7 d8 d9
      have HBl3 := Lib.hid (HBl.out.below (below_regrown w1 da oa) HBl.out.lt)
      obtain ⟨w3, hw3⟩ : ∃ w3, grow (redrawn w1 da) oa = w3 := ⟨_, rfl⟩
      have HB3 := HB2
      rw [hw3] at HB3 HBl3 ⊢
      clear hw3 HB2
      have e0 := HBl3.out.cell 0
      have e1 := HBl3.out.cell 1
      have e2 := HBl3.out.cell 2
      have e3 := HBl3.out.cell 3
      have e4 := HBl3.out.cell 4
      have e5 := HBl3.out.cell 5
      have e6 := HBl3.out.cell 6
      have e7 := HBl3.out.cell 7
      have e8 := HBl3.out.cell 8
      have e9 := HBl3.out.cell 9
      simp only [List.getElem?_toArray, List.getElem?_cons_zero, List.getElem?_cons_succ] at e0 e1 e2 e3 e4 e5 e6 e7 e8 e9
      go_wp2_with fail
      refine (HK.out _).mono ?_
      rintro e w4 ⟨rfl, hb4⟩
      have HB4 := Lib.hid (HB3.out.trans (hb4.mono HB3.out.size))
      have HBl4 := Lib.hid (HBl3.out.below hb4 HBl3.out.lt)
      clear hb4 HBl3 e0 e1 e2 e3 e4 e5 e6 e7 e8 e9
      have e0 := HBl4.out.cell 0
      have e1 := HBl4.out.cell 1
      have e2 := HBl4.out.cell 2
      have e3 := HBl4.out.cell 3
      have e4 := HBl4.out.cell 4
      have e5 := HBl4.out.cell 5
      have e6 := HBl4.out.cell 6
      have e7 := HBl4.out.cell 7
      have e8 := HBl4.out.cell 8
      have e9 := HBl4.out.cell 9
      simp only [List.getElem?_toArray, List.getElem?_cons_zero, List.getElem?_cons_succ] at e0 e1 e2 e3 e4 e5 e6 e7 e8 e9
      go_wp2_with fail
      refine (HP.out _).mono ?_
      rintro e w5 ⟨rfl, rfl⟩
      go_wp2_with fail
      go_ret
      exact ⟨rfl, HB4.out⟩
    · rw [hsp] at HP
      clear h hs hk hf hfr hsp
      go_enter Tryz.func28, Tryz.ntmps28
      go_wp2_with fail
      refine (KN.out _).mono ?_
      rintro e w' ⟨rfl, rfl⟩
      go_wp2_with fail
      obtain ⟨w1, hw1⟩ : ∃ w1, w.alloc (.cells #[.int .i64 4, .int .i64 x.m.fr, .int .i64 x.m.vw, .int .i64 x.m.ins, .int .i64 x.m.sq, .int .i64 x.m.rs, .slice x.A1 x.m.bt.length x.c1, .slice x.A2 x.m.vs.length x.c2, .slice x.A3 x.m.cs.length x.c3, .slice x.A4 x.m.ps.length x.c4] 38) = w1 := ⟨_, rfl⟩
      obtain ⟨g1, hg1⟩ : ∃ g1, w.heap.size = g1 := ⟨_, rfl⟩
      have HG1 := Lib.hid hg1
      have HB1 := HB
      rw [hw1] at HB1 HBl ⊢
      rw [hg1] at HBl ⊢
      clear hw1 hg1
      obtain ⟨d0, d1, d2, d3, d4, d5, d6, d7, d8, d9⟩ := blk_cells10 HBl.out
      have KQ := fun d os => Calls.regrown_of (KNB.out (grow (redrawn w1 d) os))
      refine wp_region_quiet_below (by kernel_rfl) (by kernel_rfl) ?_
      refine wq_out ?_
      iterate 7 (refine wq_do (by kernel_rfl) (fun K hK => ?_); go_simp; refine hK _ ?_; clear hK K)
      refine wq_do (by kernel_rfl) (fun K hK => ?_)
      go_simp
      apply Exists.intro
      refine ⟨fun a => ?_, hK _ ?_⟩
      · exact KQ a.d a.os
      clear hK K
      iterate 2 (refine wq_do (by kernel_rfl) (fun K hK => ?_); go_simp; refine hK _ ?_; clear hK K)
      refine wq_nil ?_
      intro _ hw'
      obtain ⟨⟨da, oa⟩, hw''⟩ := hw'
      subst hw''
      have HB2 := Lib.hid (HB1.out.trans ((below_regrown w1 da oa).mono HB1.out.size))
      clear KQ d0 d1 d2 d3 d4 d5 d6 d7 d8 d9
      have HBl3 := Lib.hid (HBl.out.below (below_regrown w1 da oa) HBl.out.lt)
      obtain ⟨w3, hw3⟩ : ∃ w3, grow (redrawn w1 da) oa = w3 := ⟨_, rfl⟩
      have HB3 := HB2
      rw [hw3] at HB3 HBl3 ⊢
      clear hw3 HB2
      have e0 := HBl3.out.cell 0
      have e1 := HBl3.out.cell 1
      have e2 := HBl3.out.cell 2
      have e3 := HBl3.out.cell 3
      have e4 := HBl3.out.cell 4
      have e5 := HBl3.out.cell 5
      have e6 := HBl3.out.cell 6
      have e7 := HBl3.out.cell 7
      have e8 := HBl3.out.cell 8
      have e9 := HBl3.out.cell 9
      simp only [List.getElem?_toArray, List.getElem?_cons_zero, List.getElem?_cons_succ] at e0 e1 e2 e3 e4 e5 e6 e7 e8 e9
      go_wp2_with fail
      refine (HK.out _).mono ?_
      rintro e w4 ⟨rfl, hb4⟩
      have HB4 := Lib.hid (HB3.out.trans (hb4.mono HB3.out.size))
      have HBl4 := Lib.hid (HBl3.out.below hb4 HBl3.out.lt)
      clear hb4 HBl3 e0 e1 e2 e3 e4 e5 e6 e7 e8 e9
      have e0 := HBl4.out.cell 0
      have e1 := HBl4.out.cell 1
      have e2 := HBl4.out.cell 2
      have e3 := HBl4.out.cell 3
      have e4 := HBl4.out.cell 4
      have e5 := HBl4.out.cell 5
      have e6 := HBl4.out.cell 6
      have e7 := HBl4.out.cell 7
      have e8 := HBl4.out.cell 8
      have e9 := HBl4.out.cell 9
      simp only [List.getElem?_toArray, List.getElem?_cons_zero, List.getElem?_cons_succ] at e0 e1 e2 e3 e4 e5 e6 e7 e8 e9
      go_wp2_with fail
      refine (HP.out _).mono ?_
      rintro e w5 ⟨rfl, rfl⟩
      go_wp2_with fail
      refine (rfew_any (c := x.c1) (HH.out.below HB4.out (Nat.le_refl _)) HL.out n).mono ?_
      rintro e w5 ⟨rfl, hb5⟩
      go_wp2_with fail
      go_ret
      exact ⟨by simp, HB4.out.trans (hb5.mono HB4.out.size)⟩
end Go.Proofs.YtbegjadohamkkaaGreat
/- The contract of the document's Form at kind 5. -/
namespace Go.Proofs.YtbegjadohamkkaaGreat
open Go.RowKit Go.Sort

set_option maxHeartbeats 8000000 in
set_option maxRecDepth 100000 in
theorem rform5 (x : Ms) (hk : x.m.kd = 5) {w : World} (h : x.In w w.heap.size) (hs : x.m.Short) (f n : Int) (hf : 1 ≤ f ∧ f ≤ 4) (hfr : 0 ≤ x.m.fr ∧ x.m.fr < 3 * f + 1) :
    Calls Tryz.prog 28 #[.agg #[.int .i64 x.m.kd, .int .i64 x.m.fr, .int .i64 x.m.vw, .int .i64 x.m.ins, .int .i64 x.m.sq, .int .i64 x.m.rs, .slice x.A1 x.m.bt.length x.c1, .slice x.A2 x.m.vs.length x.c2, .slice x.A3 x.m.cs.length x.c3, .slice x.A4 x.m.ps.length x.c4], .int .i64 f, .int .i64 n] w fun e w' => e = .returned (.bool (blankS true true true false true false false false x.m && (spotS x.m.vw x.m.ins x.m.sq f && fewS x.m.bt n))) ∧ Below w.heap.size w w' := by
  rw [hk]
  have HB := Lib.hid (show Below w.heap.size w (w.alloc (.cells #[.int .i64 5, .int .i64 x.m.fr, .int .i64 x.m.vw, .int .i64 x.m.ins, .int .i64 x.m.sq, .int .i64 x.m.rs, .slice x.A1 x.m.bt.length x.c1, .slice x.A2 x.m.vs.length x.c2, .slice x.A3 x.m.cs.length x.c3, .slice x.A4 x.m.ps.length x.c4] 38)) from (Below.refl _ w).alloc (Nat.le_refl _) _)
  have HBl := Lib.hid (show Blk (w.alloc (.cells #[.int .i64 5, .int .i64 x.m.fr, .int .i64 x.m.vw, .int .i64 x.m.ins, .int .i64 x.m.sq, .int .i64 x.m.rs, .slice x.A1 x.m.bt.length x.c1, .slice x.A2 x.m.vs.length x.c2, .slice x.A3 x.m.cs.length x.c3, .slice x.A4 x.m.ps.length x.c4] 38)) w.heap.size 38 #[.int .i64 5, .int .i64 x.m.fr, .int .i64 x.m.vw, .int .i64 x.m.ins, .int .i64 x.m.sq, .int .i64 x.m.rs, .slice x.A1 x.m.bt.length x.c1, .slice x.A2 x.m.vs.length x.c2, .slice x.A3 x.m.cs.length x.c3, .slice x.A4 x.m.ps.length x.c4] from Blk.new _ _ _)
  have KN := Lib.hid (fun w => (rnodes_any f w).mono (R' := fun e w' => e = .returned (.int .i64 (3 * f + 1)) ∧ w' = w) (fun e w' he => ⟨by rw [he.1, nodesS_in hf.1 hf.2], he.2.symm⟩))
  have KNB := Lib.hid (fun w => (KN.out w).mono (R' := fun e w' => e = .returned (.int .i64 (3 * f + 1)) ∧ Below w.heap.size w w') (fun e w' he => ⟨he.1, by rw [he.2]; exact Below.refl _ _⟩))
  have tn : ((3 * f + 1 : Int) == 0) = false := by rw [beq_eq_false_iff_ne]; omega
  have u1 : decide (x.m.fr < 0) = false := decide_eq_false (by omega)
  have u2 : decide (3 * f + 1 ≤ x.m.fr) = false := decide_eq_false (by omega)
  have HK := Lib.hid (fun w => rblank_visb x w)
  rw [hk] at HK
  cases hb : blankS true true true false true false false false x.m
  · rw [hb] at HK
    clear hb h hs hk hf hfr 
    go_enter Tryz.func28, Tryz.ntmps28
    go_wp2_with fail
    refine (KN.out _).mono ?_
    rintro e w' ⟨rfl, rfl⟩
    go_wp2_with fail
    obtain ⟨w1, hw1⟩ : ∃ w1, w.alloc (.cells #[.int .i64 5, .int .i64 x.m.fr, .int .i64 x.m.vw, .int .i64 x.m.ins, .int .i64 x.m.sq, .int .i64 x.m.rs, .slice x.A1 x.m.bt.length x.c1, .slice x.A2 x.m.vs.length x.c2, .slice x.A3 x.m.cs.length x.c3, .slice x.A4 x.m.ps.length x.c4] 38) = w1 := ⟨_, rfl⟩
    obtain ⟨g1, hg1⟩ : ∃ g1, w.heap.size = g1 := ⟨_, rfl⟩
    have HG1 := Lib.hid hg1
    have HB1 := HB
    rw [hw1] at HB1 HBl ⊢
    rw [hg1] at HBl ⊢
    clear hw1 hg1
    obtain ⟨d0, d1, d2, d3, d4, d5, d6, d7, d8, d9⟩ := blk_cells10 HBl.out
    have KQ := fun d os => Calls.regrown_of (KNB.out (grow (redrawn w1 d) os))
    refine wp_region_quiet_below (by kernel_rfl) (by kernel_rfl) ?_
    refine wq_out ?_
    iterate 7 (refine wq_do (by kernel_rfl) (fun K hK => ?_); go_simp; refine hK _ ?_; clear hK K)
    refine wq_do (by kernel_rfl) (fun K hK => ?_)
    go_simp
    apply Exists.intro
    refine ⟨fun a => ?_, hK _ ?_⟩
    · exact KQ a.d a.os
    clear hK K
    iterate 2 (refine wq_do (by kernel_rfl) (fun K hK => ?_); go_simp; refine hK _ ?_; clear hK K)
    refine wq_nil ?_
    intro _ hw'
    obtain ⟨⟨da, oa⟩, hw''⟩ := hw'
    subst hw''
    have HB2 := Lib.hid (HB1.out.trans ((below_regrown w1 da oa).mono HB1.out.size))
    clear KQ d0 d1 d2 d3 d4 d5 d6 d7 d8 d9
    have HBl3 := Lib.hid (HBl.out.below (below_regrown w1 da oa) HBl.out.lt)
    obtain ⟨w3, hw3⟩ : ∃ w3, grow (redrawn w1 da) oa = w3 := ⟨_, rfl⟩
    have HB3 := HB2
    rw [hw3] at HB3 HBl3 ⊢
    clear hw3 HB2
    have e0 := HBl3.out.cell 0
    have e1 := HBl3.out.cell 1
    have e2 := HBl3.out.cell 2
    have e3 := HBl3.out.cell 3
    have e4 := HBl3.out.cell 4
    have e5 := HBl3.out.cell 5
    have e6 := HBl3.out.cell 6
    have e7 := HBl3.out.cell 7
    have e8 := HBl3.out.cell 8
    have e9 := HBl3.out.cell 9
    simp only [List.getElem?_toArray, List.getElem?_cons_zero, List.getElem?_cons_succ] at e0 e1 e2 e3 e4 e5 e6 e7 e8 e9
    go_wp2_with fail
    refine (HK.out _).mono ?_
    rintro e w4 ⟨rfl, hb4⟩
    have HB4 := Lib.hid (HB3.out.trans (hb4.mono HB3.out.size))
    have HBl4 := Lib.hid (HBl3.out.below hb4 HBl3.out.lt)
    clear hb4 HBl3 e0 e1 e2 e3 e4 e5 e6 e7 e8 e9
    have e0 := HBl4.out.cell 0
    have e1 := HBl4.out.cell 1
    have e2 := HBl4.out.cell 2
    have e3 := HBl4.out.cell 3
    have e4 := HBl4.out.cell 4
    have e5 := HBl4.out.cell 5
    have e6 := HBl4.out.cell 6
    have e7 := HBl4.out.cell 7
    have e8 := HBl4.out.cell 8
    have e9 := HBl4.out.cell 9
    simp only [List.getElem?_toArray, List.getElem?_cons_zero, List.getElem?_cons_succ] at e0 e1 e2 e3 e4 e5 e6 e7 e8 e9
    go_wp2_with fail
    go_ret
    exact ⟨rfl, HB4.out⟩
  · rw [hb] at HK
    clear hb
    have HH := Lib.hid h.bt
    have HL := Lib.hid (show x.m.bt.length ≤ 9223372036854775806 by have := hs.bt; omega)
    have HP := Lib.hid (fun w => rspot_any x.m.vw x.m.ins x.m.sq f w)
    cases hsp : spotS x.m.vw x.m.ins x.m.sq f
    · rw [hsp] at HP
      clear h hs hk hf hfr hsp HH HL
      go_enter Tryz.func28, Tryz.ntmps28
      go_wp2_with fail
      refine (KN.out _).mono ?_
      rintro e w' ⟨rfl, rfl⟩
      go_wp2_with fail
      obtain ⟨w1, hw1⟩ : ∃ w1, w.alloc (.cells #[.int .i64 5, .int .i64 x.m.fr, .int .i64 x.m.vw, .int .i64 x.m.ins, .int .i64 x.m.sq, .int .i64 x.m.rs, .slice x.A1 x.m.bt.length x.c1, .slice x.A2 x.m.vs.length x.c2, .slice x.A3 x.m.cs.length x.c3, .slice x.A4 x.m.ps.length x.c4] 38) = w1 := ⟨_, rfl⟩
      obtain ⟨g1, hg1⟩ : ∃ g1, w.heap.size = g1 := ⟨_, rfl⟩
      have HG1 := Lib.hid hg1
      have HB1 := HB
      rw [hw1] at HB1 HBl ⊢
      rw [hg1] at HBl ⊢
      clear hw1 hg1
      obtain ⟨d0, d1, d2, d3, d4, d5, d6, d7, d8, d9⟩ := blk_cells10 HBl.out
      have KQ := fun d os => Calls.regrown_of (KNB.out (grow (redrawn w1 d) os))
      refine wp_region_quiet_below (by kernel_rfl) (by kernel_rfl) ?_
      refine wq_out ?_
      iterate 7 (refine wq_do (by kernel_rfl) (fun K hK => ?_); go_simp; refine hK _ ?_; clear hK K)
      refine wq_do (by kernel_rfl) (fun K hK => ?_)
      go_simp
      apply Exists.intro
      refine ⟨fun a => ?_, hK _ ?_⟩
      · exact KQ a.d a.os
      clear hK K
      iterate 2 (refine wq_do (by kernel_rfl) (fun K hK => ?_); go_simp; refine hK _ ?_; clear hK K)
      refine wq_nil ?_
      intro _ hw'
      obtain ⟨⟨da, oa⟩, hw''⟩ := hw'
      subst hw''
      have HB2 := Lib.hid (HB1.out.trans ((below_regrown w1 da oa).mono HB1.out.size))
      clear KQ d0 d1 d2 d3 d4 d5 d6 d7 d8 d9
      have HBl3 := Lib.hid (HBl.out.below (below_regrown w1 da oa) HBl.out.lt)
      obtain ⟨w3, hw3⟩ : ∃ w3, grow (redrawn w1 da) oa = w3 := ⟨_, rfl⟩
      have HB3 := HB2
      rw [hw3] at HB3 HBl3 ⊢
      clear hw3 HB2
      have e0 := HBl3.out.cell 0
      have e1 := HBl3.out.cell 1
      have e2 := HBl3.out.cell 2
      have e3 := HBl3.out.cell 3
      have e4 := HBl3.out.cell 4
      have e5 := HBl3.out.cell 5
      have e6 := HBl3.out.cell 6
      have e7 := HBl3.out.cell 7
      have e8 := HBl3.out.cell 8
      have e9 := HBl3.out.cell 9
      simp only [List.getElem?_toArray, List.getElem?_cons_zero, List.getElem?_cons_succ] at e0 e1 e2 e3 e4 e5 e6 e7 e8 e9
      go_wp2_with fail
      refine (HK.out _).mono ?_
      rintro e w4 ⟨rfl, hb4⟩
      have HB4 := Lib.hid (HB3.out.trans (hb4.mono HB3.out.size))
      have HBl4 := Lib.hid (HBl3.out.below hb4 HBl3.out.lt)
      clear hb4 HBl3 e0 e1 e2 e3 e4 e5 e6 e7 e8 e9
      have e0 := HBl4.out.cell 0
      have e1 := HBl4.out.cell 1
      have e2 := HBl4.out.cell 2
      have e3 := HBl4.out.cell 3
      have e4 := HBl4.out.cell 4
      have e5 := HBl4.out.cell 5
      have e6 := HBl4.out.cell 6
      have e7 := HBl4.out.cell 7
      have e8 := HBl4.out.cell 8
      have e9 := HBl4.out.cell 9
      simp only [List.getElem?_toArray, List.getElem?_cons_zero, List.getElem?_cons_succ] at e0 e1 e2 e3 e4 e5 e6 e7 e8 e9
      go_wp2_with fail
      refine (HP.out _).mono ?_
      rintro e w5 ⟨rfl, rfl⟩
      go_wp2_with fail
      go_ret
      exact ⟨rfl, HB4.out⟩
    · rw [hsp] at HP
      clear h hs hk hf hfr hsp
      go_enter Tryz.func28, Tryz.ntmps28
      go_wp2_with fail
      refine (KN.out _).mono ?_
      rintro e w' ⟨rfl, rfl⟩
      go_wp2_with fail
      obtain ⟨w1, hw1⟩ : ∃ w1, w.alloc (.cells #[.int .i64 5, .int .i64 x.m.fr, .int .i64 x.m.vw, .int .i64 x.m.ins, .int .i64 x.m.sq, .int .i64 x.m.rs, .slice x.A1 x.m.bt.length x.c1, .slice x.A2 x.m.vs.length x.c2, .slice x.A3 x.m.cs.length x.c3, .slice x.A4 x.m.ps.length x.c4] 38) = w1 := ⟨_, rfl⟩
      obtain ⟨g1, hg1⟩ : ∃ g1, w.heap.size = g1 := ⟨_, rfl⟩
      have HG1 := Lib.hid hg1
      have HB1 := HB
      rw [hw1] at HB1 HBl ⊢
      rw [hg1] at HBl ⊢
      clear hw1 hg1
      obtain ⟨d0, d1, d2, d3, d4, d5, d6, d7, d8, d9⟩ := blk_cells10 HBl.out
      have KQ := fun d os => Calls.regrown_of (KNB.out (grow (redrawn w1 d) os))
      refine wp_region_quiet_below (by kernel_rfl) (by kernel_rfl) ?_
      refine wq_out ?_
      iterate 7 (refine wq_do (by kernel_rfl) (fun K hK => ?_); go_simp; refine hK _ ?_; clear hK K)
      refine wq_do (by kernel_rfl) (fun K hK => ?_)
      go_simp
      apply Exists.intro
      refine ⟨fun a => ?_, hK _ ?_⟩
      · exact KQ a.d a.os
      clear hK K
      iterate 2 (refine wq_do (by kernel_rfl) (fun K hK => ?_); go_simp; refine hK _ ?_; clear hK K)
      refine wq_nil ?_
      intro _ hw'
      obtain ⟨⟨da, oa⟩, hw''⟩ := hw'
      subst hw''
      have HB2 := Lib.hid (HB1.out.trans ((below_regrown w1 da oa).mono HB1.out.size))
      clear KQ d0 d1 d2 d3 d4 d5 d6 d7 d8 d9
      have HBl3 := Lib.hid (HBl.out.below (below_regrown w1 da oa) HBl.out.lt)
      obtain ⟨w3, hw3⟩ : ∃ w3, grow (redrawn w1 da) oa = w3 := ⟨_, rfl⟩
      have HB3 := HB2
      rw [hw3] at HB3 HBl3 ⊢
      clear hw3 HB2
      have e0 := HBl3.out.cell 0
      have e1 := HBl3.out.cell 1
      have e2 := HBl3.out.cell 2
      have e3 := HBl3.out.cell 3
      have e4 := HBl3.out.cell 4
      have e5 := HBl3.out.cell 5
      have e6 := HBl3.out.cell 6
      have e7 := HBl3.out.cell 7
      have e8 := HBl3.out.cell 8
      have e9 := HBl3.out.cell 9
      simp only [List.getElem?_toArray, List.getElem?_cons_zero, List.getElem?_cons_succ] at e0 e1 e2 e3 e4 e5 e6 e7 e8 e9
      go_wp2_with fail
      refine (HK.out _).mono ?_
      rintro e w4 ⟨rfl, hb4⟩
      have HB4 := Lib.hid (HB3.out.trans (hb4.mono HB3.out.size))
      have HBl4 := Lib.hid (HBl3.out.below hb4 HBl3.out.lt)
      clear hb4 HBl3 e0 e1 e2 e3 e4 e5 e6 e7 e8 e9
      have e0 := HBl4.out.cell 0
      have e1 := HBl4.out.cell 1
      have e2 := HBl4.out.cell 2
      have e3 := HBl4.out.cell 3
      have e4 := HBl4.out.cell 4
      have e5 := HBl4.out.cell 5
      have e6 := HBl4.out.cell 6
      have e7 := HBl4.out.cell 7
      have e8 := HBl4.out.cell 8
      have e9 := HBl4.out.cell 9
      simp only [List.getElem?_toArray, List.getElem?_cons_zero, List.getElem?_cons_succ] at e0 e1 e2 e3 e4 e5 e6 e7 e8 e9
      go_wp2_with fail
      refine (HP.out _).mono ?_
      rintro e w5 ⟨rfl, rfl⟩
      go_wp2_with fail
      refine (rfew_any (c := x.c1) (HH.out.below HB4.out (Nat.le_refl _)) HL.out n).mono ?_
      rintro e w5 ⟨rfl, hb5⟩
      go_wp2_with fail
      go_ret
      exact ⟨by simp, HB4.out.trans (hb5.mono HB4.out.size)⟩
end Go.Proofs.YtbegjadohamkkaaGreat
/- The contract of the document's Form at kind 6. -/
namespace Go.Proofs.YtbegjadohamkkaaGreat
open Go.RowKit Go.Sort

set_option maxHeartbeats 8000000 in
set_option maxRecDepth 100000 in
theorem rform6 (x : Ms) (hk : x.m.kd = 6) {w : World} (h : x.In w w.heap.size) (hs : x.m.Short) (f n : Int) (hf : 1 ≤ f ∧ f ≤ 4) (hfr : 0 ≤ x.m.fr ∧ x.m.fr < 3 * f + 1) :
    Calls Tryz.prog 28 #[.agg #[.int .i64 x.m.kd, .int .i64 x.m.fr, .int .i64 x.m.vw, .int .i64 x.m.ins, .int .i64 x.m.sq, .int .i64 x.m.rs, .slice x.A1 x.m.bt.length x.c1, .slice x.A2 x.m.vs.length x.c2, .slice x.A3 x.m.cs.length x.c3, .slice x.A4 x.m.ps.length x.c4], .int .i64 f, .int .i64 n] w fun e w' => e = .returned (.bool (blankS true false false false false false false false x.m && decide (0 ≤ x.m.vw ∧ x.m.vw < 12))) ∧ Below w.heap.size w w' := by
  rw [hk]
  have HB := Lib.hid (show Below w.heap.size w (w.alloc (.cells #[.int .i64 6, .int .i64 x.m.fr, .int .i64 x.m.vw, .int .i64 x.m.ins, .int .i64 x.m.sq, .int .i64 x.m.rs, .slice x.A1 x.m.bt.length x.c1, .slice x.A2 x.m.vs.length x.c2, .slice x.A3 x.m.cs.length x.c3, .slice x.A4 x.m.ps.length x.c4] 38)) from (Below.refl _ w).alloc (Nat.le_refl _) _)
  have HBl := Lib.hid (show Blk (w.alloc (.cells #[.int .i64 6, .int .i64 x.m.fr, .int .i64 x.m.vw, .int .i64 x.m.ins, .int .i64 x.m.sq, .int .i64 x.m.rs, .slice x.A1 x.m.bt.length x.c1, .slice x.A2 x.m.vs.length x.c2, .slice x.A3 x.m.cs.length x.c3, .slice x.A4 x.m.ps.length x.c4] 38)) w.heap.size 38 #[.int .i64 6, .int .i64 x.m.fr, .int .i64 x.m.vw, .int .i64 x.m.ins, .int .i64 x.m.sq, .int .i64 x.m.rs, .slice x.A1 x.m.bt.length x.c1, .slice x.A2 x.m.vs.length x.c2, .slice x.A3 x.m.cs.length x.c3, .slice x.A4 x.m.ps.length x.c4] from Blk.new _ _ _)
  have KN := Lib.hid (fun w => (rnodes_any f w).mono (R' := fun e w' => e = .returned (.int .i64 (3 * f + 1)) ∧ w' = w) (fun e w' he => ⟨by rw [he.1, nodesS_in hf.1 hf.2], he.2.symm⟩))
  have KNB := Lib.hid (fun w => (KN.out w).mono (R' := fun e w' => e = .returned (.int .i64 (3 * f + 1)) ∧ Below w.heap.size w w') (fun e w' he => ⟨he.1, by rw [he.2]; exact Below.refl _ _⟩))
  have tn : ((3 * f + 1 : Int) == 0) = false := by rw [beq_eq_false_iff_ne]; omega
  have u1 : decide (x.m.fr < 0) = false := decide_eq_false (by omega)
  have u2 : decide (3 * f + 1 ≤ x.m.fr) = false := decide_eq_false (by omega)
  have _ := hs
  have _ := h
  have HK := Lib.hid (fun w => rblank_v x w)
  rw [hk] at HK
  cases hb : blankS true false false false false false false false x.m
  · rw [hb] at HK
    clear hb h hs hk hf hfr 
    go_enter Tryz.func28, Tryz.ntmps28
    go_wp2_with fail
    refine (KN.out _).mono ?_
    rintro e w' ⟨rfl, rfl⟩
    go_wp2_with fail
    obtain ⟨w1, hw1⟩ : ∃ w1, w.alloc (.cells #[.int .i64 6, .int .i64 x.m.fr, .int .i64 x.m.vw, .int .i64 x.m.ins, .int .i64 x.m.sq, .int .i64 x.m.rs, .slice x.A1 x.m.bt.length x.c1, .slice x.A2 x.m.vs.length x.c2, .slice x.A3 x.m.cs.length x.c3, .slice x.A4 x.m.ps.length x.c4] 38) = w1 := ⟨_, rfl⟩
    obtain ⟨g1, hg1⟩ : ∃ g1, w.heap.size = g1 := ⟨_, rfl⟩
    have HG1 := Lib.hid hg1
    have HB1 := HB
    rw [hw1] at HB1 HBl ⊢
    rw [hg1] at HBl ⊢
    clear hw1 hg1
    obtain ⟨d0, d1, d2, d3, d4, d5, d6, d7, d8, d9⟩ := blk_cells10 HBl.out
    have KQ := fun d os => Calls.regrown_of (KNB.out (grow (redrawn w1 d) os))
    refine wp_region_quiet_below (by kernel_rfl) (by kernel_rfl) ?_
    refine wq_out ?_
    iterate 7 (refine wq_do (by kernel_rfl) (fun K hK => ?_); go_simp; refine hK _ ?_; clear hK K)
    refine wq_do (by kernel_rfl) (fun K hK => ?_)
    go_simp
    apply Exists.intro
    refine ⟨fun a => ?_, hK _ ?_⟩
    · exact KQ a.d a.os
    clear hK K
    iterate 2 (refine wq_do (by kernel_rfl) (fun K hK => ?_); go_simp; refine hK _ ?_; clear hK K)
    refine wq_nil ?_
    intro _ hw'
    obtain ⟨⟨da, oa⟩, hw''⟩ := hw'
    subst hw''
    have HB2 := Lib.hid (HB1.out.trans ((below_regrown w1 da oa).mono HB1.out.size))
    clear KQ d0 d1 d2 d3 d4 d5 d6 d7 d8 d9
    have HBl3 := Lib.hid (HBl.out.below (below_regrown w1 da oa) HBl.out.lt)
    obtain ⟨w3, hw3⟩ : ∃ w3, grow (redrawn w1 da) oa = w3 := ⟨_, rfl⟩
    have HB3 := HB2
    rw [hw3] at HB3 HBl3 ⊢
    clear hw3 HB2
    have e0 := HBl3.out.cell 0
    have e1 := HBl3.out.cell 1
    have e2 := HBl3.out.cell 2
    have e3 := HBl3.out.cell 3
    have e4 := HBl3.out.cell 4
    have e5 := HBl3.out.cell 5
    have e6 := HBl3.out.cell 6
    have e7 := HBl3.out.cell 7
    have e8 := HBl3.out.cell 8
    have e9 := HBl3.out.cell 9
    simp only [List.getElem?_toArray, List.getElem?_cons_zero, List.getElem?_cons_succ] at e0 e1 e2 e3 e4 e5 e6 e7 e8 e9
    go_wp2_with fail
    refine (HK.out _).mono ?_
    rintro e w4 ⟨rfl, hb4⟩
    have HB4 := Lib.hid (HB3.out.trans (hb4.mono HB3.out.size))
    have HBl4 := Lib.hid (HBl3.out.below hb4 HBl3.out.lt)
    clear hb4 HBl3 e0 e1 e2 e3 e4 e5 e6 e7 e8 e9
    have e0 := HBl4.out.cell 0
    have e1 := HBl4.out.cell 1
    have e2 := HBl4.out.cell 2
    have e3 := HBl4.out.cell 3
    have e4 := HBl4.out.cell 4
    have e5 := HBl4.out.cell 5
    have e6 := HBl4.out.cell 6
    have e7 := HBl4.out.cell 7
    have e8 := HBl4.out.cell 8
    have e9 := HBl4.out.cell 9
    simp only [List.getElem?_toArray, List.getElem?_cons_zero, List.getElem?_cons_succ] at e0 e1 e2 e3 e4 e5 e6 e7 e8 e9
    go_wp2_with fail
    go_ret
    exact ⟨rfl, HB4.out⟩
  · rw [hb] at HK
    clear hb
    by_cases h1 : 0 ≤ x.m.vw
    · have t1 : decide ((0 : Int) ≤ x.m.vw) = true := decide_eq_true h1
      rw [show decide (0 ≤ x.m.vw ∧ x.m.vw < 12) = decide (x.m.vw < 12) from decide_eq_decide.mpr (by omega)]
      clear h hs hk hf hfr h1
      go_enter Tryz.func28, Tryz.ntmps28
      go_wp2_with fail
      refine (KN.out _).mono ?_
      rintro e w' ⟨rfl, rfl⟩
      go_wp2_with fail
      obtain ⟨w1, hw1⟩ : ∃ w1, w.alloc (.cells #[.int .i64 6, .int .i64 x.m.fr, .int .i64 x.m.vw, .int .i64 x.m.ins, .int .i64 x.m.sq, .int .i64 x.m.rs, .slice x.A1 x.m.bt.length x.c1, .slice x.A2 x.m.vs.length x.c2, .slice x.A3 x.m.cs.length x.c3, .slice x.A4 x.m.ps.length x.c4] 38) = w1 := ⟨_, rfl⟩
      obtain ⟨g1, hg1⟩ : ∃ g1, w.heap.size = g1 := ⟨_, rfl⟩
      have HG1 := Lib.hid hg1
      have HB1 := HB
      rw [hw1] at HB1 HBl ⊢
      rw [hg1] at HBl ⊢
      clear hw1 hg1
      obtain ⟨d0, d1, d2, d3, d4, d5, d6, d7, d8, d9⟩ := blk_cells10 HBl.out
      have KQ := fun d os => Calls.regrown_of (KNB.out (grow (redrawn w1 d) os))
      refine wp_region_quiet_below (by kernel_rfl) (by kernel_rfl) ?_
      refine wq_out ?_
      iterate 7 (refine wq_do (by kernel_rfl) (fun K hK => ?_); go_simp; refine hK _ ?_; clear hK K)
      refine wq_do (by kernel_rfl) (fun K hK => ?_)
      go_simp
      apply Exists.intro
      refine ⟨fun a => ?_, hK _ ?_⟩
      · exact KQ a.d a.os
      clear hK K
      iterate 2 (refine wq_do (by kernel_rfl) (fun K hK => ?_); go_simp; refine hK _ ?_; clear hK K)
      refine wq_nil ?_
      intro _ hw'
      obtain ⟨⟨da, oa⟩, hw''⟩ := hw'
      subst hw''
      have HB2 := Lib.hid (HB1.out.trans ((below_regrown w1 da oa).mono HB1.out.size))
      clear KQ d0 d1 d2 d3 d4 d5 d6 d7 d8 d9
      have HBl3 := Lib.hid (HBl.out.below (below_regrown w1 da oa) HBl.out.lt)
      obtain ⟨w3, hw3⟩ : ∃ w3, grow (redrawn w1 da) oa = w3 := ⟨_, rfl⟩
      have HB3 := HB2
      rw [hw3] at HB3 HBl3 ⊢
      clear hw3 HB2
      have e0 := HBl3.out.cell 0
      have e1 := HBl3.out.cell 1
      have e2 := HBl3.out.cell 2
      have e3 := HBl3.out.cell 3
      have e4 := HBl3.out.cell 4
      have e5 := HBl3.out.cell 5
      have e6 := HBl3.out.cell 6
      have e7 := HBl3.out.cell 7
      have e8 := HBl3.out.cell 8
      have e9 := HBl3.out.cell 9
      simp only [List.getElem?_toArray, List.getElem?_cons_zero, List.getElem?_cons_succ] at e0 e1 e2 e3 e4 e5 e6 e7 e8 e9
      go_wp2_with fail
      refine (HK.out _).mono ?_
      rintro e w4 ⟨rfl, hb4⟩
      have HB4 := Lib.hid (HB3.out.trans (hb4.mono HB3.out.size))
      have HBl4 := Lib.hid (HBl3.out.below hb4 HBl3.out.lt)
      clear hb4 HBl3 e0 e1 e2 e3 e4 e5 e6 e7 e8 e9
      have e0 := HBl4.out.cell 0
      have e1 := HBl4.out.cell 1
      have e2 := HBl4.out.cell 2
      have e3 := HBl4.out.cell 3
      have e4 := HBl4.out.cell 4
      have e5 := HBl4.out.cell 5
      have e6 := HBl4.out.cell 6
      have e7 := HBl4.out.cell 7
      have e8 := HBl4.out.cell 8
      have e9 := HBl4.out.cell 9
      simp only [List.getElem?_toArray, List.getElem?_cons_zero, List.getElem?_cons_succ] at e0 e1 e2 e3 e4 e5 e6 e7 e8 e9
      go_wp2_with fail
      go_ret
      exact ⟨by simp, HB4.out⟩
    · have t1 : decide ((0 : Int) ≤ x.m.vw) = false := decide_eq_false h1
      rw [show decide (0 ≤ x.m.vw ∧ x.m.vw < 12) = false from decide_eq_false (by omega)]
      clear h hs hk hf hfr h1
      go_enter Tryz.func28, Tryz.ntmps28
      go_wp2_with fail
      refine (KN.out _).mono ?_
      rintro e w' ⟨rfl, rfl⟩
      go_wp2_with fail
      obtain ⟨w1, hw1⟩ : ∃ w1, w.alloc (.cells #[.int .i64 6, .int .i64 x.m.fr, .int .i64 x.m.vw, .int .i64 x.m.ins, .int .i64 x.m.sq, .int .i64 x.m.rs, .slice x.A1 x.m.bt.length x.c1, .slice x.A2 x.m.vs.length x.c2, .slice x.A3 x.m.cs.length x.c3, .slice x.A4 x.m.ps.length x.c4] 38) = w1 := ⟨_, rfl⟩
      obtain ⟨g1, hg1⟩ : ∃ g1, w.heap.size = g1 := ⟨_, rfl⟩
      have HG1 := Lib.hid hg1
      have HB1 := HB
      rw [hw1] at HB1 HBl ⊢
      rw [hg1] at HBl ⊢
      clear hw1 hg1
      obtain ⟨d0, d1, d2, d3, d4, d5, d6, d7, d8, d9⟩ := blk_cells10 HBl.out
      have KQ := fun d os => Calls.regrown_of (KNB.out (grow (redrawn w1 d) os))
      refine wp_region_quiet_below (by kernel_rfl) (by kernel_rfl) ?_
      refine wq_out ?_
      iterate 7 (refine wq_do (by kernel_rfl) (fun K hK => ?_); go_simp; refine hK _ ?_; clear hK K)
      refine wq_do (by kernel_rfl) (fun K hK => ?_)
      go_simp
      apply Exists.intro
      refine ⟨fun a => ?_, hK _ ?_⟩
      · exact KQ a.d a.os
      clear hK K
      iterate 2 (refine wq_do (by kernel_rfl) (fun K hK => ?_); go_simp; refine hK _ ?_; clear hK K)
      refine wq_nil ?_
      intro _ hw'
      obtain ⟨⟨da, oa⟩, hw''⟩ := hw'
      subst hw''
      have HB2 := Lib.hid (HB1.out.trans ((below_regrown w1 da oa).mono HB1.out.size))
      clear KQ d0 d1 d2 d3 d4 d5 d6 d7 d8 d9
      have HBl3 := Lib.hid (HBl.out.below (below_regrown w1 da oa) HBl.out.lt)
      obtain ⟨w3, hw3⟩ : ∃ w3, grow (redrawn w1 da) oa = w3 := ⟨_, rfl⟩
      have HB3 := HB2
      rw [hw3] at HB3 HBl3 ⊢
      clear hw3 HB2
      have e0 := HBl3.out.cell 0
      have e1 := HBl3.out.cell 1
      have e2 := HBl3.out.cell 2
      have e3 := HBl3.out.cell 3
      have e4 := HBl3.out.cell 4
      have e5 := HBl3.out.cell 5
      have e6 := HBl3.out.cell 6
      have e7 := HBl3.out.cell 7
      have e8 := HBl3.out.cell 8
      have e9 := HBl3.out.cell 9
      simp only [List.getElem?_toArray, List.getElem?_cons_zero, List.getElem?_cons_succ] at e0 e1 e2 e3 e4 e5 e6 e7 e8 e9
      go_wp2_with fail
      refine (HK.out _).mono ?_
      rintro e w4 ⟨rfl, hb4⟩
      have HB4 := Lib.hid (HB3.out.trans (hb4.mono HB3.out.size))
      have HBl4 := Lib.hid (HBl3.out.below hb4 HBl3.out.lt)
      clear hb4 HBl3 e0 e1 e2 e3 e4 e5 e6 e7 e8 e9
      have e0 := HBl4.out.cell 0
      have e1 := HBl4.out.cell 1
      have e2 := HBl4.out.cell 2
      have e3 := HBl4.out.cell 3
      have e4 := HBl4.out.cell 4
      have e5 := HBl4.out.cell 5
      have e6 := HBl4.out.cell 6
      have e7 := HBl4.out.cell 7
      have e8 := HBl4.out.cell 8
      have e9 := HBl4.out.cell 9
      simp only [List.getElem?_toArray, List.getElem?_cons_zero, List.getElem?_cons_succ] at e0 e1 e2 e3 e4 e5 e6 e7 e8 e9
      go_wp2_with fail
      go_ret
      exact ⟨rfl, HB4.out⟩
end Go.Proofs.YtbegjadohamkkaaGreat
/- The contract of the document's Form at kind 7. -/
namespace Go.Proofs.YtbegjadohamkkaaGreat
open Go.RowKit Go.Sort

set_option maxHeartbeats 8000000 in
set_option maxRecDepth 100000 in
theorem rform7 (x : Ms) (hk : x.m.kd = 7) {w : World} (h : x.In w w.heap.size) (hs : x.m.Short) (f n : Int) (hf : 1 ≤ f ∧ f ≤ 4) (hfr : 0 ≤ x.m.fr ∧ x.m.fr < 3 * f + 1) :
    Calls Tryz.prog 28 #[.agg #[.int .i64 x.m.kd, .int .i64 x.m.fr, .int .i64 x.m.vw, .int .i64 x.m.ins, .int .i64 x.m.sq, .int .i64 x.m.rs, .slice x.A1 x.m.bt.length x.c1, .slice x.A2 x.m.vs.length x.c2, .slice x.A3 x.m.cs.length x.c3, .slice x.A4 x.m.ps.length x.c4], .int .i64 f, .int .i64 n] w fun e w' => e = .returned (.bool (blankS true false false false false true true false x.m && leavesS x.m.vw x.m.vs x.m.cs f n)) ∧ Below w.heap.size w w' := by
  rw [hk]
  have HB := Lib.hid (show Below w.heap.size w (w.alloc (.cells #[.int .i64 7, .int .i64 x.m.fr, .int .i64 x.m.vw, .int .i64 x.m.ins, .int .i64 x.m.sq, .int .i64 x.m.rs, .slice x.A1 x.m.bt.length x.c1, .slice x.A2 x.m.vs.length x.c2, .slice x.A3 x.m.cs.length x.c3, .slice x.A4 x.m.ps.length x.c4] 38)) from (Below.refl _ w).alloc (Nat.le_refl _) _)
  have HBl := Lib.hid (show Blk (w.alloc (.cells #[.int .i64 7, .int .i64 x.m.fr, .int .i64 x.m.vw, .int .i64 x.m.ins, .int .i64 x.m.sq, .int .i64 x.m.rs, .slice x.A1 x.m.bt.length x.c1, .slice x.A2 x.m.vs.length x.c2, .slice x.A3 x.m.cs.length x.c3, .slice x.A4 x.m.ps.length x.c4] 38)) w.heap.size 38 #[.int .i64 7, .int .i64 x.m.fr, .int .i64 x.m.vw, .int .i64 x.m.ins, .int .i64 x.m.sq, .int .i64 x.m.rs, .slice x.A1 x.m.bt.length x.c1, .slice x.A2 x.m.vs.length x.c2, .slice x.A3 x.m.cs.length x.c3, .slice x.A4 x.m.ps.length x.c4] from Blk.new _ _ _)
  have KN := Lib.hid (fun w => (rnodes_any f w).mono (R' := fun e w' => e = .returned (.int .i64 (3 * f + 1)) ∧ w' = w) (fun e w' he => ⟨by rw [he.1, nodesS_in hf.1 hf.2], he.2.symm⟩))
  have KNB := Lib.hid (fun w => (KN.out w).mono (R' := fun e w' => e = .returned (.int .i64 (3 * f + 1)) ∧ Below w.heap.size w w') (fun e w' he => ⟨he.1, by rw [he.2]; exact Below.refl _ _⟩))
  have tn : ((3 * f + 1 : Int) == 0) = false := by rw [beq_eq_false_iff_ne]; omega
  have u1 : decide (x.m.fr < 0) = false := decide_eq_false (by omega)
  have u2 : decide (3 * f + 1 ≤ x.m.fr) = false := decide_eq_false (by omega)
  have HK := Lib.hid (fun w => rblank_voc x w)
  rw [hk] at HK
  cases hb : blankS true false false false false true true false x.m
  · rw [hb] at HK
    clear hb h hs hk hf hfr 
    go_enter Tryz.func28, Tryz.ntmps28
    go_wp2_with fail
    refine (KN.out _).mono ?_
    rintro e w' ⟨rfl, rfl⟩
    go_wp2_with fail
    obtain ⟨w1, hw1⟩ : ∃ w1, w.alloc (.cells #[.int .i64 7, .int .i64 x.m.fr, .int .i64 x.m.vw, .int .i64 x.m.ins, .int .i64 x.m.sq, .int .i64 x.m.rs, .slice x.A1 x.m.bt.length x.c1, .slice x.A2 x.m.vs.length x.c2, .slice x.A3 x.m.cs.length x.c3, .slice x.A4 x.m.ps.length x.c4] 38) = w1 := ⟨_, rfl⟩
    obtain ⟨g1, hg1⟩ : ∃ g1, w.heap.size = g1 := ⟨_, rfl⟩
    have HG1 := Lib.hid hg1
    have HB1 := HB
    rw [hw1] at HB1 HBl ⊢
    rw [hg1] at HBl ⊢
    clear hw1 hg1
    obtain ⟨d0, d1, d2, d3, d4, d5, d6, d7, d8, d9⟩ := blk_cells10 HBl.out
    have KQ := fun d os => Calls.regrown_of (KNB.out (grow (redrawn w1 d) os))
    refine wp_region_quiet_below (by kernel_rfl) (by kernel_rfl) ?_
    refine wq_out ?_
    iterate 7 (refine wq_do (by kernel_rfl) (fun K hK => ?_); go_simp; refine hK _ ?_; clear hK K)
    refine wq_do (by kernel_rfl) (fun K hK => ?_)
    go_simp
    apply Exists.intro
    refine ⟨fun a => ?_, hK _ ?_⟩
    · exact KQ a.d a.os
    clear hK K
    iterate 2 (refine wq_do (by kernel_rfl) (fun K hK => ?_); go_simp; refine hK _ ?_; clear hK K)
    refine wq_nil ?_
    intro _ hw'
    obtain ⟨⟨da, oa⟩, hw''⟩ := hw'
    subst hw''
    have HB2 := Lib.hid (HB1.out.trans ((below_regrown w1 da oa).mono HB1.out.size))
    clear KQ d0 d1 d2 d3 d4 d5 d6 d7 d8 d9
    have HBl3 := Lib.hid (HBl.out.below (below_regrown w1 da oa) HBl.out.lt)
    obtain ⟨w3, hw3⟩ : ∃ w3, grow (redrawn w1 da) oa = w3 := ⟨_, rfl⟩
    have HB3 := HB2
    rw [hw3] at HB3 HBl3 ⊢
    clear hw3 HB2
    have e0 := HBl3.out.cell 0
    have e1 := HBl3.out.cell 1
    have e2 := HBl3.out.cell 2
    have e3 := HBl3.out.cell 3
    have e4 := HBl3.out.cell 4
    have e5 := HBl3.out.cell 5
    have e6 := HBl3.out.cell 6
    have e7 := HBl3.out.cell 7
    have e8 := HBl3.out.cell 8
    have e9 := HBl3.out.cell 9
    simp only [List.getElem?_toArray, List.getElem?_cons_zero, List.getElem?_cons_succ] at e0 e1 e2 e3 e4 e5 e6 e7 e8 e9
    go_wp2_with fail
    refine (HK.out _).mono ?_
    rintro e w4 ⟨rfl, hb4⟩
    have HB4 := Lib.hid (HB3.out.trans (hb4.mono HB3.out.size))
    have HBl4 := Lib.hid (HBl3.out.below hb4 HBl3.out.lt)
    clear hb4 HBl3 e0 e1 e2 e3 e4 e5 e6 e7 e8 e9
    have e0 := HBl4.out.cell 0
    have e1 := HBl4.out.cell 1
    have e2 := HBl4.out.cell 2
    have e3 := HBl4.out.cell 3
    have e4 := HBl4.out.cell 4
    have e5 := HBl4.out.cell 5
    have e6 := HBl4.out.cell 6
    have e7 := HBl4.out.cell 7
    have e8 := HBl4.out.cell 8
    have e9 := HBl4.out.cell 9
    simp only [List.getElem?_toArray, List.getElem?_cons_zero, List.getElem?_cons_succ] at e0 e1 e2 e3 e4 e5 e6 e7 e8 e9
    go_wp2_with fail
    go_ret
    exact ⟨rfl, HB4.out⟩
  · rw [hb] at HK
    clear hb
    have HI := Lib.hid h
    have HS := Lib.hid hs
    clear h hs hk hf hfr
    go_enter Tryz.func28, Tryz.ntmps28
    go_wp2_with fail
    refine (KN.out _).mono ?_
    rintro e w' ⟨rfl, rfl⟩
    go_wp2_with fail
    obtain ⟨w1, hw1⟩ : ∃ w1, w.alloc (.cells #[.int .i64 7, .int .i64 x.m.fr, .int .i64 x.m.vw, .int .i64 x.m.ins, .int .i64 x.m.sq, .int .i64 x.m.rs, .slice x.A1 x.m.bt.length x.c1, .slice x.A2 x.m.vs.length x.c2, .slice x.A3 x.m.cs.length x.c3, .slice x.A4 x.m.ps.length x.c4] 38) = w1 := ⟨_, rfl⟩
    obtain ⟨g1, hg1⟩ : ∃ g1, w.heap.size = g1 := ⟨_, rfl⟩
    have HG1 := Lib.hid hg1
    have HB1 := HB
    rw [hw1] at HB1 HBl ⊢
    rw [hg1] at HBl ⊢
    clear hw1 hg1
    obtain ⟨d0, d1, d2, d3, d4, d5, d6, d7, d8, d9⟩ := blk_cells10 HBl.out
    have KQ := fun d os => Calls.regrown_of (KNB.out (grow (redrawn w1 d) os))
    refine wp_region_quiet_below (by kernel_rfl) (by kernel_rfl) ?_
    refine wq_out ?_
    iterate 7 (refine wq_do (by kernel_rfl) (fun K hK => ?_); go_simp; refine hK _ ?_; clear hK K)
    refine wq_do (by kernel_rfl) (fun K hK => ?_)
    go_simp
    apply Exists.intro
    refine ⟨fun a => ?_, hK _ ?_⟩
    · exact KQ a.d a.os
    clear hK K
    iterate 2 (refine wq_do (by kernel_rfl) (fun K hK => ?_); go_simp; refine hK _ ?_; clear hK K)
    refine wq_nil ?_
    intro _ hw'
    obtain ⟨⟨da, oa⟩, hw''⟩ := hw'
    subst hw''
    have HB2 := Lib.hid (HB1.out.trans ((below_regrown w1 da oa).mono HB1.out.size))
    clear KQ d0 d1 d2 d3 d4 d5 d6 d7 d8 d9
    have HBl3 := Lib.hid (HBl.out.below (below_regrown w1 da oa) HBl.out.lt)
    obtain ⟨w3, hw3⟩ : ∃ w3, grow (redrawn w1 da) oa = w3 := ⟨_, rfl⟩
    have HB3 := HB2
    rw [hw3] at HB3 HBl3 ⊢
    clear hw3 HB2
    have e0 := HBl3.out.cell 0
    have e1 := HBl3.out.cell 1
    have e2 := HBl3.out.cell 2
    have e3 := HBl3.out.cell 3
    have e4 := HBl3.out.cell 4
    have e5 := HBl3.out.cell 5
    have e6 := HBl3.out.cell 6
    have e7 := HBl3.out.cell 7
    have e8 := HBl3.out.cell 8
    have e9 := HBl3.out.cell 9
    simp only [List.getElem?_toArray, List.getElem?_cons_zero, List.getElem?_cons_succ] at e0 e1 e2 e3 e4 e5 e6 e7 e8 e9
    go_wp2_with fail
    refine (HK.out _).mono ?_
    rintro e w4 ⟨rfl, hb4⟩
    have HB4 := Lib.hid (HB3.out.trans (hb4.mono HB3.out.size))
    have HBl4 := Lib.hid (HBl3.out.below hb4 HBl3.out.lt)
    clear hb4 HBl3 e0 e1 e2 e3 e4 e5 e6 e7 e8 e9
    have e0 := HBl4.out.cell 0
    have e1 := HBl4.out.cell 1
    have e2 := HBl4.out.cell 2
    have e3 := HBl4.out.cell 3
    have e4 := HBl4.out.cell 4
    have e5 := HBl4.out.cell 5
    have e6 := HBl4.out.cell 6
    have e7 := HBl4.out.cell 7
    have e8 := HBl4.out.cell 8
    have e9 := HBl4.out.cell 9
    simp only [List.getElem?_toArray, List.getElem?_cons_zero, List.getElem?_cons_succ] at e0 e1 e2 e3 e4 e5 e6 e7 e8 e9
    have hi4 := HI.out.reads (Reads.below HB4.out (Nat.le_refl _)) |>.reads (Reads.more HB4.out.size)
    have HC := Lib.hid (rleaves_any (c1 := x.c2) (c3 := x.c3) hi4.vs HS.out.vs hi4.cs HS.out.cs HS.out.each x.m.vw f n)
    clear hi4
    go_wp2_with fail
    refine HC.out.mono ?_
    rintro e w5 ⟨rfl, hb5⟩
    go_wp2_with fail
    go_ret
    exact ⟨by simp, HB4.out.trans (hb5.mono HB4.out.size)⟩
end Go.Proofs.YtbegjadohamkkaaGreat
/- The contract of the document's Form at kind 9. -/
namespace Go.Proofs.YtbegjadohamkkaaGreat
open Go.RowKit Go.Sort

set_option maxHeartbeats 8000000 in
set_option maxRecDepth 100000 in
theorem rform9 (x : Ms) (hk : x.m.kd = 9) {w : World} (h : x.In w w.heap.size) (hs : x.m.Short) (f n : Int) (hf : 1 ≤ f ∧ f ≤ 4) (hfr : 0 ≤ x.m.fr ∧ x.m.fr < 3 * f + 1) :
    Calls Tryz.prog 28 #[.agg #[.int .i64 x.m.kd, .int .i64 x.m.fr, .int .i64 x.m.vw, .int .i64 x.m.ins, .int .i64 x.m.sq, .int .i64 x.m.rs, .slice x.A1 x.m.bt.length x.c1, .slice x.A2 x.m.vs.length x.c2, .slice x.A3 x.m.cs.length x.c3, .slice x.A4 x.m.ps.length x.c4], .int .i64 f, .int .i64 n] w fun e w' => e = .returned (.bool (blankS false false false false false false true false x.m && oneC x.m.cs f n)) ∧ Below w.heap.size w w' := by
  rw [hk]
  have HB := Lib.hid (show Below w.heap.size w (w.alloc (.cells #[.int .i64 9, .int .i64 x.m.fr, .int .i64 x.m.vw, .int .i64 x.m.ins, .int .i64 x.m.sq, .int .i64 x.m.rs, .slice x.A1 x.m.bt.length x.c1, .slice x.A2 x.m.vs.length x.c2, .slice x.A3 x.m.cs.length x.c3, .slice x.A4 x.m.ps.length x.c4] 38)) from (Below.refl _ w).alloc (Nat.le_refl _) _)
  have HBl := Lib.hid (show Blk (w.alloc (.cells #[.int .i64 9, .int .i64 x.m.fr, .int .i64 x.m.vw, .int .i64 x.m.ins, .int .i64 x.m.sq, .int .i64 x.m.rs, .slice x.A1 x.m.bt.length x.c1, .slice x.A2 x.m.vs.length x.c2, .slice x.A3 x.m.cs.length x.c3, .slice x.A4 x.m.ps.length x.c4] 38)) w.heap.size 38 #[.int .i64 9, .int .i64 x.m.fr, .int .i64 x.m.vw, .int .i64 x.m.ins, .int .i64 x.m.sq, .int .i64 x.m.rs, .slice x.A1 x.m.bt.length x.c1, .slice x.A2 x.m.vs.length x.c2, .slice x.A3 x.m.cs.length x.c3, .slice x.A4 x.m.ps.length x.c4] from Blk.new _ _ _)
  have KN := Lib.hid (fun w => (rnodes_any f w).mono (R' := fun e w' => e = .returned (.int .i64 (3 * f + 1)) ∧ w' = w) (fun e w' he => ⟨by rw [he.1, nodesS_in hf.1 hf.2], he.2.symm⟩))
  have KNB := Lib.hid (fun w => (KN.out w).mono (R' := fun e w' => e = .returned (.int .i64 (3 * f + 1)) ∧ Below w.heap.size w w') (fun e w' he => ⟨he.1, by rw [he.2]; exact Below.refl _ _⟩))
  have tn : ((3 * f + 1 : Int) == 0) = false := by rw [beq_eq_false_iff_ne]; omega
  have u1 : decide (x.m.fr < 0) = false := decide_eq_false (by omega)
  have u2 : decide (3 * f + 1 ≤ x.m.fr) = false := decide_eq_false (by omega)
  have HK := Lib.hid (fun w => rblank_c x w)
  rw [hk] at HK
  cases hb : blankS false false false false false false true false x.m
  · rw [hb] at HK
    clear hb h hs hk hf hfr 
    go_enter Tryz.func28, Tryz.ntmps28
    go_wp2_with fail
    refine (KN.out _).mono ?_
    rintro e w' ⟨rfl, rfl⟩
    go_wp2_with fail
    obtain ⟨w1, hw1⟩ : ∃ w1, w.alloc (.cells #[.int .i64 9, .int .i64 x.m.fr, .int .i64 x.m.vw, .int .i64 x.m.ins, .int .i64 x.m.sq, .int .i64 x.m.rs, .slice x.A1 x.m.bt.length x.c1, .slice x.A2 x.m.vs.length x.c2, .slice x.A3 x.m.cs.length x.c3, .slice x.A4 x.m.ps.length x.c4] 38) = w1 := ⟨_, rfl⟩
    obtain ⟨g1, hg1⟩ : ∃ g1, w.heap.size = g1 := ⟨_, rfl⟩
    have HG1 := Lib.hid hg1
    have HB1 := HB
    rw [hw1] at HB1 HBl ⊢
    rw [hg1] at HBl ⊢
    clear hw1 hg1
    obtain ⟨d0, d1, d2, d3, d4, d5, d6, d7, d8, d9⟩ := blk_cells10 HBl.out
    have KQ := fun d os => Calls.regrown_of (KNB.out (grow (redrawn w1 d) os))
    refine wp_region_quiet_below (by kernel_rfl) (by kernel_rfl) ?_
    refine wq_out ?_
    iterate 7 (refine wq_do (by kernel_rfl) (fun K hK => ?_); go_simp; refine hK _ ?_; clear hK K)
    refine wq_do (by kernel_rfl) (fun K hK => ?_)
    go_simp
    apply Exists.intro
    refine ⟨fun a => ?_, hK _ ?_⟩
    · exact KQ a.d a.os
    clear hK K
    iterate 2 (refine wq_do (by kernel_rfl) (fun K hK => ?_); go_simp; refine hK _ ?_; clear hK K)
    refine wq_nil ?_
    intro _ hw'
    obtain ⟨⟨da, oa⟩, hw''⟩ := hw'
    subst hw''
    have HB2 := Lib.hid (HB1.out.trans ((below_regrown w1 da oa).mono HB1.out.size))
    clear KQ d0 d1 d2 d3 d4 d5 d6 d7 d8 d9
    have HBl3 := Lib.hid (HBl.out.below (below_regrown w1 da oa) HBl.out.lt)
    obtain ⟨w3, hw3⟩ : ∃ w3, grow (redrawn w1 da) oa = w3 := ⟨_, rfl⟩
    have HB3 := HB2
    rw [hw3] at HB3 HBl3 ⊢
    clear hw3 HB2
    have e0 := HBl3.out.cell 0
    have e1 := HBl3.out.cell 1
    have e2 := HBl3.out.cell 2
    have e3 := HBl3.out.cell 3
    have e4 := HBl3.out.cell 4
    have e5 := HBl3.out.cell 5
    have e6 := HBl3.out.cell 6
    have e7 := HBl3.out.cell 7
    have e8 := HBl3.out.cell 8
    have e9 := HBl3.out.cell 9
    simp only [List.getElem?_toArray, List.getElem?_cons_zero, List.getElem?_cons_succ] at e0 e1 e2 e3 e4 e5 e6 e7 e8 e9
    go_wp2_with fail
    refine (HK.out _).mono ?_
    rintro e w4 ⟨rfl, hb4⟩
    have HB4 := Lib.hid (HB3.out.trans (hb4.mono HB3.out.size))
    have HBl4 := Lib.hid (HBl3.out.below hb4 HBl3.out.lt)
    clear hb4 HBl3 e0 e1 e2 e3 e4 e5 e6 e7 e8 e9
    have e0 := HBl4.out.cell 0
    have e1 := HBl4.out.cell 1
    have e2 := HBl4.out.cell 2
    have e3 := HBl4.out.cell 3
    have e4 := HBl4.out.cell 4
    have e5 := HBl4.out.cell 5
    have e6 := HBl4.out.cell 6
    have e7 := HBl4.out.cell 7
    have e8 := HBl4.out.cell 8
    have e9 := HBl4.out.cell 9
    simp only [List.getElem?_toArray, List.getElem?_cons_zero, List.getElem?_cons_succ] at e0 e1 e2 e3 e4 e5 e6 e7 e8 e9
    go_wp2_with fail
    go_ret
    exact ⟨rfl, HB4.out⟩
  · rw [hb] at HK
    clear hb
    by_cases h1 : x.m.cs.length = 1
    · obtain ⟨L, hLc, hL, hLI⟩ := h.cs
      have hll : L.length = x.m.cs.length := by rw [← hLc]; simp
      have hlt : 0 < L.length := by omega
      obtain ⟨y, hy⟩ : ∃ y, L[0] = y := ⟨_, rfl⟩
      have hym : y ∈ L := hy ▸ List.getElem_mem hlt
      have hyc : y.c ∈ x.m.cs := by rw [← hLc]; exact List.mem_map_of_mem hym
      have HE := Lib.hid (oneC_is (f := f) (n := n) (x := y.c) h1 (by rw [← hLc, List.getElem?_map, List.getElem?_eq_getElem hlt, hy]; rfl))
      have HL := Lib.hid hL
      have HY := Lib.hid hy
      have HLt := Lib.hid hlt
      have HYI := Lib.hid (hLI y hym)
      have HYS := Lib.hid (show y.Short from ⟨(hs.each _ hyc).1, (hs.each _ hyc).2⟩)
      have t0 : ((x.m.cs.length : Int) == 1) = true := by rw [h1]; rfl
      have t1 : (0 : Int) < (x.m.cs.length : Int) := by omega
      have t2 : 0 < x.m.cs.length := by omega
      rw [HE.out]
      clear h hs hk hf hfr h1 hLI hLc hll hy hym hyc hL
      go_enter Tryz.func28, Tryz.ntmps28
      go_wp2_with fail
      refine (KN.out _).mono ?_
      rintro e w' ⟨rfl, rfl⟩
      go_wp2_with fail
      obtain ⟨w1, hw1⟩ : ∃ w1, w.alloc (.cells #[.int .i64 9, .int .i64 x.m.fr, .int .i64 x.m.vw, .int .i64 x.m.ins, .int .i64 x.m.sq, .int .i64 x.m.rs, .slice x.A1 x.m.bt.length x.c1, .slice x.A2 x.m.vs.length x.c2, .slice x.A3 x.m.cs.length x.c3, .slice x.A4 x.m.ps.length x.c4] 38) = w1 := ⟨_, rfl⟩
      obtain ⟨g1, hg1⟩ : ∃ g1, w.heap.size = g1 := ⟨_, rfl⟩
      have HG1 := Lib.hid hg1
      have HB1 := HB
      rw [hw1] at HB1 HBl ⊢
      rw [hg1] at HBl ⊢
      clear hw1 hg1
      obtain ⟨d0, d1, d2, d3, d4, d5, d6, d7, d8, d9⟩ := blk_cells10 HBl.out
      have KQ := fun d os => Calls.regrown_of (KNB.out (grow (redrawn w1 d) os))
      refine wp_region_quiet_below (by kernel_rfl) (by kernel_rfl) ?_
      refine wq_out ?_
      iterate 7 (refine wq_do (by kernel_rfl) (fun K hK => ?_); go_simp; refine hK _ ?_; clear hK K)
      refine wq_do (by kernel_rfl) (fun K hK => ?_)
      go_simp
      apply Exists.intro
      refine ⟨fun a => ?_, hK _ ?_⟩
      · exact KQ a.d a.os
      clear hK K
      iterate 2 (refine wq_do (by kernel_rfl) (fun K hK => ?_); go_simp; refine hK _ ?_; clear hK K)
      refine wq_nil ?_
      intro _ hw'
      obtain ⟨⟨da, oa⟩, hw''⟩ := hw'
      subst hw''
      have HB2 := Lib.hid (HB1.out.trans ((below_regrown w1 da oa).mono HB1.out.size))
      clear KQ d0 d1 d2 d3 d4 d5 d6 d7 d8 d9
      have HBl3 := Lib.hid (HBl.out.below (below_regrown w1 da oa) HBl.out.lt)
      obtain ⟨w3, hw3⟩ : ∃ w3, grow (redrawn w1 da) oa = w3 := ⟨_, rfl⟩
      have HB3 := HB2
      rw [hw3] at HB3 HBl3 ⊢
      clear hw3 HB2
      have e0 := HBl3.out.cell 0
      have e1 := HBl3.out.cell 1
      have e2 := HBl3.out.cell 2
      have e3 := HBl3.out.cell 3
      have e4 := HBl3.out.cell 4
      have e5 := HBl3.out.cell 5
      have e6 := HBl3.out.cell 6
      have e7 := HBl3.out.cell 7
      have e8 := HBl3.out.cell 8
      have e9 := HBl3.out.cell 9
      simp only [List.getElem?_toArray, List.getElem?_cons_zero, List.getElem?_cons_succ] at e0 e1 e2 e3 e4 e5 e6 e7 e8 e9
      go_wp2_with fail
      refine (HK.out _).mono ?_
      rintro e w4 ⟨rfl, hb4⟩
      have HB4 := Lib.hid (HB3.out.trans (hb4.mono HB3.out.size))
      have HBl4 := Lib.hid (HBl3.out.below hb4 HBl3.out.lt)
      clear hb4 HBl3 e0 e1 e2 e3 e4 e5 e6 e7 e8 e9
      have e0 := HBl4.out.cell 0
      have e1 := HBl4.out.cell 1
      have e2 := HBl4.out.cell 2
      have e3 := HBl4.out.cell 3
      have e4 := HBl4.out.cell 4
      have e5 := HBl4.out.cell 5
      have e6 := HBl4.out.cell 6
      have e7 := HBl4.out.cell 7
      have e8 := HBl4.out.cell 8
      have e9 := HBl4.out.cell 9
      simp only [List.getElem?_toArray, List.getElem?_cons_zero, List.getElem?_cons_succ] at e0 e1 e2 e3 e4 e5 e6 e7 e8 e9
      have hL4 := HL.out.below HB4.out (Nat.le_refl _)
      obtain ⟨ad, hA, c0, c1, c2, c3, c4⟩ := five_at hL4 HLt.out
      rw [HY.out] at c0 c1 c2 c3 c4
      have ez : ad.add (0 * 5) = ad := rfl
      rw [ez] at c0 c1 c2 c3 c4
      rw [hA] at e8
      have HC := Lib.hid (mono_in (w := w) HB4.out HYI.out)
      have HCC := Lib.hid (rcert_any y HC.out HYS.out f n)
      clear hA ez hL4
      go_wp2_with fail
      refine HCC.out.mono ?_
      rintro e w5 ⟨rfl, hb5⟩
      go_wp2_with fail
      go_ret
      exact ⟨by simp, HB4.out.trans (hb5.mono HB4.out.size)⟩
    · have t1 : ((x.m.cs.length : Int) == 1) = false := by rw [beq_eq_false_iff_ne]; omega
      rw [oneC_no h1]
      clear h hs hk hf hfr h1
      go_enter Tryz.func28, Tryz.ntmps28
      go_wp2_with fail
      refine (KN.out _).mono ?_
      rintro e w' ⟨rfl, rfl⟩
      go_wp2_with fail
      obtain ⟨w1, hw1⟩ : ∃ w1, w.alloc (.cells #[.int .i64 9, .int .i64 x.m.fr, .int .i64 x.m.vw, .int .i64 x.m.ins, .int .i64 x.m.sq, .int .i64 x.m.rs, .slice x.A1 x.m.bt.length x.c1, .slice x.A2 x.m.vs.length x.c2, .slice x.A3 x.m.cs.length x.c3, .slice x.A4 x.m.ps.length x.c4] 38) = w1 := ⟨_, rfl⟩
      obtain ⟨g1, hg1⟩ : ∃ g1, w.heap.size = g1 := ⟨_, rfl⟩
      have HG1 := Lib.hid hg1
      have HB1 := HB
      rw [hw1] at HB1 HBl ⊢
      rw [hg1] at HBl ⊢
      clear hw1 hg1
      obtain ⟨d0, d1, d2, d3, d4, d5, d6, d7, d8, d9⟩ := blk_cells10 HBl.out
      have KQ := fun d os => Calls.regrown_of (KNB.out (grow (redrawn w1 d) os))
      refine wp_region_quiet_below (by kernel_rfl) (by kernel_rfl) ?_
      refine wq_out ?_
      iterate 7 (refine wq_do (by kernel_rfl) (fun K hK => ?_); go_simp; refine hK _ ?_; clear hK K)
      refine wq_do (by kernel_rfl) (fun K hK => ?_)
      go_simp
      apply Exists.intro
      refine ⟨fun a => ?_, hK _ ?_⟩
      · exact KQ a.d a.os
      clear hK K
      iterate 2 (refine wq_do (by kernel_rfl) (fun K hK => ?_); go_simp; refine hK _ ?_; clear hK K)
      refine wq_nil ?_
      intro _ hw'
      obtain ⟨⟨da, oa⟩, hw''⟩ := hw'
      subst hw''
      have HB2 := Lib.hid (HB1.out.trans ((below_regrown w1 da oa).mono HB1.out.size))
      clear KQ d0 d1 d2 d3 d4 d5 d6 d7 d8 d9
      have HBl3 := Lib.hid (HBl.out.below (below_regrown w1 da oa) HBl.out.lt)
      obtain ⟨w3, hw3⟩ : ∃ w3, grow (redrawn w1 da) oa = w3 := ⟨_, rfl⟩
      have HB3 := HB2
      rw [hw3] at HB3 HBl3 ⊢
      clear hw3 HB2
      have e0 := HBl3.out.cell 0
      have e1 := HBl3.out.cell 1
      have e2 := HBl3.out.cell 2
      have e3 := HBl3.out.cell 3
      have e4 := HBl3.out.cell 4
      have e5 := HBl3.out.cell 5
      have e6 := HBl3.out.cell 6
      have e7 := HBl3.out.cell 7
      have e8 := HBl3.out.cell 8
      have e9 := HBl3.out.cell 9
      simp only [List.getElem?_toArray, List.getElem?_cons_zero, List.getElem?_cons_succ] at e0 e1 e2 e3 e4 e5 e6 e7 e8 e9
      go_wp2_with fail
      refine (HK.out _).mono ?_
      rintro e w4 ⟨rfl, hb4⟩
      have HB4 := Lib.hid (HB3.out.trans (hb4.mono HB3.out.size))
      have HBl4 := Lib.hid (HBl3.out.below hb4 HBl3.out.lt)
      clear hb4 HBl3 e0 e1 e2 e3 e4 e5 e6 e7 e8 e9
      have e0 := HBl4.out.cell 0
      have e1 := HBl4.out.cell 1
      have e2 := HBl4.out.cell 2
      have e3 := HBl4.out.cell 3
      have e4 := HBl4.out.cell 4
      have e5 := HBl4.out.cell 5
      have e6 := HBl4.out.cell 6
      have e7 := HBl4.out.cell 7
      have e8 := HBl4.out.cell 8
      have e9 := HBl4.out.cell 9
      simp only [List.getElem?_toArray, List.getElem?_cons_zero, List.getElem?_cons_succ] at e0 e1 e2 e3 e4 e5 e6 e7 e8 e9
      go_wp2_with fail
      go_ret
      exact ⟨rfl, HB4.out⟩
end Go.Proofs.YtbegjadohamkkaaGreat
/- Envelopes of one seal: which bytes open. Nothing of the program's run. -/
namespace Go.Proofs.YtbegjadohamkkaaGreat

end Go.Proofs.YtbegjadohamkkaaGreat
