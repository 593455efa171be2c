/- The contract of reqs.Valid. -/
import Derived.Test.YtdopgdaobpcbjaaRefComp
namespace Go.Proofs.Ytdopgdaobpcbjaa
open Go.RowKit

def rq_opS (k y v : Int) : Bool := decide (1 ≤ k ∧ k ≤ 5 ∧ 0 ≤ y ∧ y < 64 ∧ -2147483648 < v ∧ v < 2147483648 ∧ (k = 1 ∨ k = 3 ∨ v = 0) ∧ (k ≠ 5 ∨ y = 0))
theorem validS_op (r : Rq) (n : Int) : validS r n = (decide (0 ≤ r.cl ∧ r.cl < n ∧ 1 ≤ r.tm ∧ r.tm ≤ 1048576) && rq_opS r.kd r.ky r.vl && decide (0 ≤ r.sg ∧ r.sg ≤ 1099511627775)) := by
  unfold validS rq_opS
  rw [Bool.eq_iff_iff]
  simp only [Bool.and_eq_true, decide_eq_true_eq]
  omega
set_option maxHeartbeats 4000000 in
theorem rq_op (k y v : Int) (w : World) :
    Calls Try.prog 43 #[.agg #[.int .i64 k, .int .i64 y, .int .i64 v]] w fun e w' => e = .returned (.bool (rq_opS k y v)) ∧ Below w.heap.size w w' := by
  by_cases h1 : k = 1
  · subst h1
    go_enter Try.func43, Try.ntmps43
    go_wp2
    all_goals go_ret
    all_goals refine ⟨congrArg (fun b => Ending.returned (.bool b)) ?_, (Below.refl _ _).alloc (Nat.le_refl _) _⟩
    all_goals (first | exact (decide_eq_false (by omega)).symm | exact (decide_eq_true (by omega)).symm | (rw [Bool.eq_iff_iff]; simp [rq_opS]; omega))
  · have t1 : (k == 1) = false := by simpa using h1
    by_cases h3 : k = 3
    · subst h3
      go_enter Try.func43, Try.ntmps43
      go_wp2
      all_goals go_ret
      all_goals refine ⟨congrArg (fun b => Ending.returned (.bool b)) ?_, (Below.refl _ _).alloc (Nat.le_refl _) _⟩
      all_goals (first | exact (decide_eq_false (by omega)).symm | exact (decide_eq_true (by omega)).symm | (rw [Bool.eq_iff_iff]; simp [rq_opS]; omega))
    · have t3 : (k == 3) = false := by simpa using h3
      by_cases h2 : k = 2
      · subst h2
        go_enter Try.func43, Try.ntmps43
        go_wp2
        all_goals go_ret
        all_goals refine ⟨congrArg (fun b => Ending.returned (.bool b)) ?_, (Below.refl _ _).alloc (Nat.le_refl _) _⟩
        all_goals (first | exact (decide_eq_false (by omega)).symm | exact (decide_eq_true (by omega)).symm | (rw [Bool.eq_iff_iff]; simp [rq_opS]; omega))
      · have t2 : (k == 2) = false := by simpa using h2
        by_cases h4 : k = 4
        · subst h4
          go_enter Try.func43, Try.ntmps43
          go_wp2
          all_goals go_ret
          all_goals refine ⟨congrArg (fun b => Ending.returned (.bool b)) ?_, (Below.refl _ _).alloc (Nat.le_refl _) _⟩
          all_goals (first | exact (decide_eq_false (by omega)).symm | exact (decide_eq_true (by omega)).symm | (rw [Bool.eq_iff_iff]; simp [rq_opS]; omega))
        · have t4 : (k == 4) = false := by simpa using h4
          by_cases h5 : k = 5
          · subst h5
            go_enter Try.func43, Try.ntmps43
            go_wp2
            all_goals go_ret
            all_goals refine ⟨congrArg (fun b => Ending.returned (.bool b)) ?_, (Below.refl _ _).alloc (Nat.le_refl _) _⟩
            all_goals (first | exact (decide_eq_false (by omega)).symm | exact (decide_eq_true (by omega)).symm | (rw [Bool.eq_iff_iff]; simp [rq_opS]; omega))
          · have t5 : (k == 5) = false := by simpa using h5
            have hk : rq_opS k y v = false := decide_eq_false (by omega)
            rw [hk]
            clear hk h1 h2 h3 h4 h5
            go_enter Try.func43, Try.ntmps43
            go_wp2
            go_ret
            exact ⟨rfl, (Below.refl _ _).alloc (Nat.le_refl _) _⟩
/-- What is asked ahead of the operation. -/
def rq_headS (r : Rq) (n : Int) : Bool := decide (0 ≤ r.cl ∧ r.cl < n ∧ 1 ≤ r.tm ∧ r.tm ≤ 1048576)
set_option maxHeartbeats 4000000 in
set_option maxRecDepth 100000 in
theorem rq_valid (r : Rq) (n : Int) (w : World) :
    Calls Try.prog 19 #[.agg #[.int .i64 r.cl, .int .i64 r.tm, .int .i64 r.kd, .int .i64 r.ky, .int .i64 r.vl, .int .i64 r.sg], .int .i64 n] w fun e w' => e = .returned (.bool (validS r n)) ∧ Below w.heap.size w w' := by
  have HV := Lib.hid (validS_op r n)
  have HO := Lib.hid (fun w => rq_op r.kd r.ky r.vl w)
  by_cases h1 : 0 ≤ r.cl ∧ r.cl < n ∧ 1 ≤ r.tm ∧ r.tm ≤ 1048576
  · have t1 : decide ((0 : Int) ≤ r.cl) = true := decide_eq_true h1.1
    have t2 : decide (r.cl < n) = true := decide_eq_true h1.2.1
    have t3 : decide ((1 : Int) ≤ r.tm) = true := decide_eq_true h1.2.2.1
    have t4 : decide (r.tm ≤ 1048576) = true := decide_eq_true h1.2.2.2
    rw [decide_eq_true h1, Bool.true_and] at HV
    clear h1
    go_enter Try.func19, Try.ntmps19
    go_wp2_with fail
    have HX := Lib.hid (show Blk (w.alloc (.cells #[.int .i64 r.cl, .int .i64 r.tm, .int .i64 r.kd, .int .i64 r.ky, .int .i64 r.vl, .int .i64 r.sg] 34)) w.heap.size 34 #[.int .i64 r.cl, .int .i64 r.tm, .int .i64 r.kd, .int .i64 r.ky, .int .i64 r.vl, .int .i64 r.sg] from Blk.new _ _ _)
    have HB := Lib.hid (show Below w.heap.size w (w.alloc (.cells #[.int .i64 r.cl, .int .i64 r.tm, .int .i64 r.kd, .int .i64 r.ky, .int .i64 r.vl, .int .i64 r.sg] 34)) from (Below.refl _ _).alloc (Nat.le_refl _) _)
    refine (HO.out _).mono ?_
    rintro e w2 ⟨rfl, hb2⟩
    have HB2 := Lib.hid (HB.out.trans (hb2.mono HB.out.size))
    have hx2 := HX.out.below hb2 HX.out.lt
    have d5 := hx2.cell 5
    simp only [List.getElem?_toArray, List.getElem?_cons_zero, List.getElem?_cons_succ] at d5
    clear hx2 hb2
    cases ho : rq_opS r.kd r.ky r.vl
    · rw [ho, Bool.false_and] at HV
      clear ho
      go_wp2_with fail
      go_ret
      exact ⟨by rw [HV.out]; rfl, HB2.out⟩
    · rw [ho, Bool.true_and] at HV
      clear ho
      go_wp2_with fail
      all_goals go_ret
      all_goals refine ⟨?_, HB2.out⟩
      all_goals rw [HV.out]
      all_goals refine congrArg (fun b => Ending.returned (.bool b)) ?_
      all_goals (first | exact (decide_eq_false (by omega)).symm | exact (decide_eq_true (by omega)).symm | (rw [Bool.eq_iff_iff]; simp; omega))
  · rw [decide_eq_false h1, Bool.false_and, Bool.false_and] at HV
    have HN := Lib.hid h1
    clear h1
    go_enter Try.func19, Try.ntmps19
    go_wp2_with (exfalso; have := HN.out; omega)
    all_goals go_ret
    all_goals exact ⟨by rw [HV.out]; rfl, (Below.refl _ _).alloc (Nat.le_refl _) _⟩
end Go.Proofs.Ytdopgdaobpcbjaa
