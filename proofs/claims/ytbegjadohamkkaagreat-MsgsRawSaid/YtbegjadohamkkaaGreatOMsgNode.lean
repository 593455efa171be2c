/- The contracts of msgs.voteForm, isPrimary, requestForm, and of nodeForm, kind by kind. -/
import Derived.Test.YtbegjadohamkkaaGreatOMsgParts
import Derived.Test.YtbegjadohamkkaaGreatOS6
namespace Go.Proofs.YtbegjadohamkkaaGreat
open Go.RowKit Go.Sort

/-- A message's lists are not too long. -/
structure Mg.Short (m : Mg) : Prop where
  bt : m.bt.length ≤ 1000000
  vs : m.vs.length ≤ 1000000
  cs : m.cs.length ≤ 1000000
  each : ∀ c ∈ m.cs, c.bt.length ≤ 1000000 ∧ c.vs.length ≤ 1000000
  ps : ∀ p ∈ m.ps, p.Short
  pl : m.ps.length ≤ 1000000
def voteS (m : Mg) (f n : Int) : Bool := spotS m.vw m.ins m.sq f && fewS m.bt n
set_option maxHeartbeats 1000000 in
set_option maxRecDepth 100000 in
theorem mvoteform (x : Ms) {w : World} (h : Has w w.heap.size x.A1 (reqCells x.m.bt)) (hs : x.m.bt.length ≤ 1000000) (f n : Int) :
    Calls Tryz.prog 131 #[.agg #[.int .i64 x.m.kd, .int .i64 x.m.fr, .int .i64 x.m.vw, .int .i64 x.m.ins, .int .i64 x.m.sq, .int .i64 x.m.rs, .slice x.A1 x.m.bt.length x.c1, .slice x.A2 x.m.vs.length x.c2, .slice x.A3 x.m.cs.length x.c3, .slice x.A4 x.m.ps.length x.c4], .int .i64 f, .int .i64 n] w fun e w' => e = .returned (.bool (voteS x.m f n)) ∧ Below w.heap.size w w' := by
  have HB := Lib.hid (show Below w.heap.size w (w.alloc (.cells #[.int .i64 x.m.kd, .int .i64 x.m.fr, .int .i64 x.m.vw, .int .i64 x.m.ins, .int .i64 x.m.sq, .int .i64 x.m.rs, .slice x.A1 x.m.bt.length x.c1, .slice x.A2 x.m.vs.length x.c2, .slice x.A3 x.m.cs.length x.c3, .slice x.A4 x.m.ps.length x.c4] 38)) from (Below.refl _ w).alloc (Nat.le_refl _) _)
  have KP := Lib.hid (fun w => mplaced x.m.vw x.m.ins x.m.sq f w)
  have KF := Lib.hid (mfew_any (c := x.c1) (Reads.more HB.out.size _ _ (Reads.below HB.out (Nat.le_refl _) _ _ h)) hs n)
  clear h hs
  have HE := Lib.hid (show voteS x.m f n = (spotS x.m.vw x.m.ins x.m.sq f && fewS x.m.bt n) from rfl)
  cases hp : spotS x.m.vw x.m.ins x.m.sq f
  · rw [hp] at KP HE
    clear hp KF
    go_enter Tryz.func131, Tryz.ntmps131
    go_wp2_with fail
    refine (KP.out _).mono ?_
    rintro e w' ⟨rfl, rfl⟩
    go_wp2_with fail
    go_ret
    exact ⟨by rw [HE.out]; rfl, HB.out⟩
  · rw [hp] at KP HE
    clear hp
    go_enter Tryz.func131, Tryz.ntmps131
    go_wp2_with fail
    refine (KP.out _).mono ?_
    rintro e w' ⟨rfl, rfl⟩
    go_wp2_with fail
    refine KF.out.mono ?_
    rintro e w2 ⟨rfl, hb2⟩
    go_wp2_with fail
    go_ret
    exact ⟨by rw [HE.out]; simp, HB.out.trans (hb2.mono HB.out.size)⟩
set_option maxHeartbeats 1000000 in
set_option maxRecDepth 100000 in
theorem mprimary (x : Ms) (f : Int) (w : World) :
    Calls Tryz.prog 132 #[.agg #[.int .i64 x.m.kd, .int .i64 x.m.fr, .int .i64 x.m.vw, .int .i64 x.m.ins, .int .i64 x.m.sq, .int .i64 x.m.rs, .slice x.A1 x.m.bt.length x.c1, .slice x.A2 x.m.vs.length x.c2, .slice x.A3 x.m.cs.length x.c3, .slice x.A4 x.m.ps.length x.c4], .int .i64 f] w fun e w' => e = .returned (.bool (x.m.fr == primaryS f x.m.vw x.m.ins)) ∧ Below w.heap.size w w' := by
  have HB := Lib.hid (show Below w.heap.size w (w.alloc (.cells #[.int .i64 x.m.kd, .int .i64 x.m.fr, .int .i64 x.m.vw, .int .i64 x.m.ins, .int .i64 x.m.sq, .int .i64 x.m.rs, .slice x.A1 x.m.bt.length x.c1, .slice x.A2 x.m.vs.length x.c2, .slice x.A3 x.m.cs.length x.c3, .slice x.A4 x.m.ps.length x.c4] 38)) from (Below.refl _ w).alloc (Nat.le_refl _) _)
  have HP := Lib.hid (fun w => (bprimary_any f x.m.vw x.m.ins w).mono (R' := fun e w' => e = .returned (.int .i64 (primaryS f x.m.vw x.m.ins)) ∧ w' = w) (fun e w' he => ⟨he.1, he.2.symm⟩))
  obtain ⟨z, hz⟩ : ∃ z, primaryS f x.m.vw x.m.ins = z := ⟨_, rfl⟩
  rw [hz] at HP ⊢
  clear hz
  go_enter Tryz.func132, Tryz.ntmps132
  go_wp2_with fail
  go_quiet ((go_at_call 165; exact Calls.quiet_of_same (HP.out _)))
  go_wp2_with fail
  go_ret
  exact ⟨rfl, HB.out.trans ⟨rfl, rfl, rfl, Nat.le_refl _, fun _ _ => rfl⟩⟩
/-- A client's own request, alone. -/
def reqS (m : Mg) (n : Int) : Bool := match m.bt with | [r] => validS r n && decide (m.fr = 100 + r.cl) | _ => false
theorem reqS_no {m : Mg} {n : Int} (h : oneS m.bt n = false) : reqS m n = false := by
  unfold reqS
  revert h
  match m.bt with
  | [] => intro _; rfl
  | [r] => intro h; show (validS r n && decide (m.fr = 100 + r.cl)) = false; rw [show validS r n = false from h]; rfl
  | _ :: _ :: _ => intro _; rfl
theorem oneS_yes {l : List Rq} {n : Int} (h : oneS l n = true) : ∃ r, l = [r] ∧ validS r n = true := by
  revert h
  match l with
  | [] => intro h; cases h
  | [r] => intro h; exact ⟨r, rfl, h⟩
  | _ :: _ :: _ => intro h; cases h
set_option maxHeartbeats 2000000 in
set_option maxRecDepth 100000 in
theorem mrequest (x : Ms) {w : World} (h : Has w w.heap.size x.A1 (reqCells x.m.bt)) (hfr : x.m.fr ≤ 9223372036854775807) (n : Int) :
    Calls Tryz.prog 89 #[.agg #[.int .i64 x.m.kd, .int .i64 x.m.fr, .int .i64 x.m.vw, .int .i64 x.m.ins, .int .i64 x.m.sq, .int .i64 x.m.rs, .slice x.A1 x.m.bt.length x.c1, .slice x.A2 x.m.vs.length x.c2, .slice x.A3 x.m.cs.length x.c3, .slice x.A4 x.m.ps.length x.c4], .int .i64 n] w fun e w' => e = .returned (.bool (reqS x.m n)) ∧ Below w.heap.size w w' := by
  have HB1 := Lib.hid (show Below w.heap.size w (w.alloc (.cells #[.int .i64 x.m.kd, .int .i64 x.m.fr, .int .i64 x.m.vw, .int .i64 x.m.ins, .int .i64 x.m.sq, .int .i64 x.m.rs, .slice x.A1 x.m.bt.length x.c1, .slice x.A2 x.m.vs.length x.c2, .slice x.A3 x.m.cs.length x.c3, .slice x.A4 x.m.ps.length x.c4] 38)) from (Below.refl _ w).alloc (Nat.le_refl _) _)
  have HBl := Lib.hid (Blk.new w 38 #[.int .i64 x.m.kd, .int .i64 x.m.fr, .int .i64 x.m.vw, .int .i64 x.m.ins, .int .i64 x.m.sq, .int .i64 x.m.rs, .slice x.A1 x.m.bt.length x.c1, .slice x.A2 x.m.vs.length x.c2, .slice x.A3 x.m.cs.length x.c3, .slice x.A4 x.m.ps.length x.c4])
  have HH := Lib.hid (h.below HB1.out (Nat.le_refl _))
  have KS0 := Lib.hid (fun (W : World) (hW : Below w.heap.size w W) => msingle (c := x.c1) (h.below hW (Nat.le_refl _)) n)
  clear h
  cases ho : oneS x.m.bt n
  · have HE := Lib.hid (reqS_no ho)
    rw [ho] at KS0
    clear ho hfr
    go_enter Tryz.func89, Tryz.ntmps89
    go_wp2_with fail
    obtain ⟨w1, hw1⟩ : ∃ w1, (w.alloc (.cells #[.int .i64 x.m.kd, .int .i64 x.m.fr, .int .i64 x.m.vw, .int .i64 x.m.ins, .int .i64 x.m.sq, .int .i64 x.m.rs, .slice x.A1 x.m.bt.length x.c1, .slice x.A2 x.m.vs.length x.c2, .slice x.A3 x.m.cs.length x.c3, .slice x.A4 x.m.ps.length x.c4] 38)) = w1 := ⟨_, rfl⟩
    rw [hw1] at HB1 HBl HH ⊢
    clear hw1
    have KS := fun d os => Calls.regrown_of (KS0.out (grow (redrawn w1 d) os) (HB1.out.trans ((below_regrown w1 d os).mono HB1.out.size)))
    obtain ⟨d0, d1, d2, d3, d4, d5, d6, d7, d8, d9⟩ := blk_cells10 HBl.out
    refine wp_region_quiet_below (by kernel_rfl) (by kernel_rfl) ?_
    refine wq_out ?_
    iterate 3 (refine wq_do (by kernel_rfl) (fun K hK => ?_); go_simp; refine hK _ ?_; clear hK K)
    refine wq_do (by kernel_rfl) (fun K hK => ?_)
    go_simp
    apply Exists.intro
    refine ⟨fun a => ?_, hK _ ?_⟩
    · exact KS a.d a.os
    clear hK K
    refine wq_do (by kernel_rfl) (fun K hK => ?_)
    go_simp
    refine hK _ ?_
    clear hK K
    iterate 3 (refine wq_skip (by kernel_rfl) ?_)
    iterate 2 (refine wq_do (by kernel_rfl) (fun K hK => ?_); go_simp; refine hK _ ?_; clear hK K)
    iterate 9 (refine wq_skip (by kernel_rfl) ?_)
    iterate 2 (refine wq_do (by kernel_rfl) (fun K hK => ?_); go_simp; refine hK _ ?_; clear hK K)
    refine wq_nil ?_
    intro _ hw'
    obtain ⟨⟨dq, osq⟩, hw''⟩ := hw'
    subst hw''
    have HB3 := Lib.hid (HB1.out.trans ((below_regrown w1 dq osq).mono HB1.out.size))
    clear KS d0 d1 d2 d3 d4 d5 d6 d7 d8 d9
    go_wp2_with fail
    go_ret
    exact ⟨by rw [HE.out]; rfl, HB3.out⟩
  · obtain ⟨r, hbt, hr⟩ := oneS_yes ho
    have HV := Lib.hid (show 0 ≤ r.cl ∧ r.cl < n by
      have := hr; unfold validS at this
      simp only [decide_eq_true_eq] at this
      omega)
    have HE := Lib.hid (show reqS x.m n = decide (x.m.fr = 100 + r.cl) by unfold reqS; rw [hbt]; simp only [hr, Bool.true_and])
    rw [ho] at KS0
    obtain ⟨a1, hA, q0, c0, q1, q2, q3, q4, q5⟩ := HH.out.req (k := 0) (by rw [hbt]; simp)
    rw [show x.m.bt[0]'(by rw [hbt]; simp) = r by simp [hbt]] at c0
    have e0 : a1.add (0 * 6) = a1 := rfl
    rw [e0] at c0
    have hl0 : (0 : Int) < (x.m.bt.length : Int) := by rw [hbt]; simp
    have hl1 : 0 < x.m.bt.length := by rw [hbt]; simp
    have HA := Lib.hid hA
    clear q0 q1 q2 q3 q4 q5
    clear ho hr e0 hbt hA
    by_cases h1 : 100 ≤ x.m.fr
    · have t1 : decide ((100 : Int) ≤ x.m.fr) = true := decide_eq_true h1
      have hw9 : IntKind.i64.wrap (x.m.fr - 100) = x.m.fr - 100 := IntWalk.i64_in _ (by omega)
      have HEE := Lib.hid (show reqS x.m n = (x.m.fr - 100 == r.cl) by rw [HE.out, Bool.eq_iff_iff]; simp; omega)
      clear h1
      go_enter Tryz.func89, Tryz.ntmps89
      go_wp2_with fail
      obtain ⟨w1, hw1⟩ : ∃ w1, (w.alloc (.cells #[.int .i64 x.m.kd, .int .i64 x.m.fr, .int .i64 x.m.vw, .int .i64 x.m.ins, .int .i64 x.m.sq, .int .i64 x.m.rs, .slice x.A1 x.m.bt.length x.c1, .slice x.A2 x.m.vs.length x.c2, .slice x.A3 x.m.cs.length x.c3, .slice x.A4 x.m.ps.length x.c4] 38)) = w1 := ⟨_, rfl⟩
      rw [hw1] at HB1 HBl HH c0 ⊢
      clear hw1
      have KS := fun d os => Calls.regrown_of (KS0.out (grow (redrawn w1 d) os) (HB1.out.trans ((below_regrown w1 d os).mono HB1.out.size)))
      obtain ⟨d0, d1, d2, d3, d4, d5, d6, d7, d8, d9⟩ := blk_cells10 HBl.out
      rw [HA.out] at d6 KS
      have c0 := cell_regrown c0
      refine wp_region_quiet_below (by kernel_rfl) (by kernel_rfl) ?_
      refine wq_out ?_
      iterate 3 (refine wq_do (by kernel_rfl) (fun K hK => ?_); go_simp; refine hK _ ?_; clear hK K)
      refine wq_do (by kernel_rfl) (fun K hK => ?_)
      go_simp
      apply Exists.intro
      refine ⟨fun a => ?_, hK _ ?_⟩
      · exact KS a.d a.os
      clear hK K
      iterate 17 (refine wq_do (by kernel_rfl) (fun K hK => ?_); go_simp; refine hK _ ?_; clear hK K)
      refine wq_nil ?_
      intro _ hw'
      obtain ⟨⟨dq, osq⟩, hw''⟩ := hw'
      subst hw''
      have HB3 := Lib.hid (HB1.out.trans ((below_regrown w1 dq osq).mono HB1.out.size))
      clear KS c0 d0 d1 d2 d3 d4 d5 d6 d7 d8 d9
      go_wp2_with fail
      go_ret
      exact ⟨by rw [HEE.out]; rfl, HB3.out⟩
    · have t1 : decide ((100 : Int) ≤ x.m.fr) = false := decide_eq_false h1
      have HEE := Lib.hid (show reqS x.m n = false by rw [HE.out]; have := HV.out; exact decide_eq_false (by omega))
      clear h1 c0
      go_enter Tryz.func89, Tryz.ntmps89
      go_wp2_with fail
      obtain ⟨w1, hw1⟩ : ∃ w1, (w.alloc (.cells #[.int .i64 x.m.kd, .int .i64 x.m.fr, .int .i64 x.m.vw, .int .i64 x.m.ins, .int .i64 x.m.sq, .int .i64 x.m.rs, .slice x.A1 x.m.bt.length x.c1, .slice x.A2 x.m.vs.length x.c2, .slice x.A3 x.m.cs.length x.c3, .slice x.A4 x.m.ps.length x.c4] 38)) = w1 := ⟨_, rfl⟩
      rw [hw1] at HB1 HBl HH ⊢
      clear hw1
      have KS := fun d os => Calls.regrown_of (KS0.out (grow (redrawn w1 d) os) (HB1.out.trans ((below_regrown w1 d os).mono HB1.out.size)))
      obtain ⟨d0, d1, d2, d3, d4, d5, d6, d7, d8, d9⟩ := blk_cells10 HBl.out
      refine wp_region_quiet_below (by kernel_rfl) (by kernel_rfl) ?_
      refine wq_out ?_
      iterate 3 (refine wq_do (by kernel_rfl) (fun K hK => ?_); go_simp; refine hK _ ?_; clear hK K)
      refine wq_do (by kernel_rfl) (fun K hK => ?_)
      go_simp
      apply Exists.intro
      refine ⟨fun a => ?_, hK _ ?_⟩
      · exact KS a.d a.os
      clear hK K
      iterate 6 (refine wq_do (by kernel_rfl) (fun K hK => ?_); go_simp; refine hK _ ?_; clear hK K)
      iterate 9 (refine wq_skip (by kernel_rfl) ?_)
      iterate 2 (refine wq_do (by kernel_rfl) (fun K hK => ?_); go_simp; refine hK _ ?_; clear hK K)
      refine wq_nil ?_
      intro _ hw'
      obtain ⟨⟨dq, osq⟩, hw''⟩ := hw'
      subst hw''
      have HB3 := Lib.hid (HB1.out.trans ((below_regrown w1 dq osq).mono HB1.out.size))
      clear KS d0 d1 d2 d3 d4 d5 d6 d7 d8 d9
      go_wp2_with fail
      go_ret
      exact ⟨by rw [HEE.out]; rfl, HB3.out⟩
set_option maxHeartbeats 2000000 in
set_option maxRecDepth 100000 in
theorem nodeform2 (x : Ms) (hk : x.m.kd = 2) {w : World} (h : x.In w w.heap.size) (hs : x.m.Short) (f n : Int) (hf : 1 ≤ f ∧ f ≤ 4) :
    Calls Tryz.prog 91 #[.agg #[.int .i64 x.m.kd, .int .i64 x.m.fr, .int .i64 x.m.vw, .int .i64 x.m.ins, .int .i64 x.m.sq, .int .i64 x.m.rs, .slice x.A1 x.m.bt.length x.c1, .slice x.A2 x.m.vs.length x.c2, .slice x.A3 x.m.cs.length x.c3, .slice x.A4 x.m.ps.length x.c4], .int .i64 f, .int .i64 n] w fun e w' => e = .returned (.bool (oneS x.m.bt n)) ∧ Below w.heap.size w w' := by
  rw [hk]
  have HB := Lib.hid (show Below w.heap.size w (w.alloc (.cells #[.int .i64 2, .int .i64 x.m.fr, .int .i64 x.m.vw, .int .i64 x.m.ins, .int .i64 x.m.sq, .int .i64 x.m.rs, .slice x.A1 x.m.bt.length x.c1, .slice x.A2 x.m.vs.length x.c2, .slice x.A3 x.m.cs.length x.c3, .slice x.A4 x.m.ps.length x.c4] 38)) from (Below.refl _ w).alloc (Nat.le_refl _) _)
  have HBl := Lib.hid (show Blk (w.alloc (.cells #[.int .i64 2, .int .i64 x.m.fr, .int .i64 x.m.vw, .int .i64 x.m.ins, .int .i64 x.m.sq, .int .i64 x.m.rs, .slice x.A1 x.m.bt.length x.c1, .slice x.A2 x.m.vs.length x.c2, .slice x.A3 x.m.cs.length x.c3, .slice x.A4 x.m.ps.length x.c4] 38)) w.heap.size 38 #[.int .i64 2, .int .i64 x.m.fr, .int .i64 x.m.vw, .int .i64 x.m.ins, .int .i64 x.m.sq, .int .i64 x.m.rs, .slice x.A1 x.m.bt.length x.c1, .slice x.A2 x.m.vs.length x.c2, .slice x.A3 x.m.cs.length x.c3, .slice x.A4 x.m.ps.length x.c4] from Blk.new _ _ _)
  have _ := hs
  have _ := hf
  have HS := Lib.hid (msingle (c := x.c1) (h.bt.below HB.out (Nat.le_refl _)) n)
  clear h hs hk
  go_enter Tryz.func91, Tryz.ntmps91
  go_wp2_with fail
  refine HS.out.mono ?_
  rintro e w2 ⟨rfl, hb2⟩
  go_wp2_with fail
  go_ret
  exact ⟨rfl, HB.out.trans (hb2.mono HB.out.size)⟩
set_option maxHeartbeats 2000000 in
set_option maxRecDepth 100000 in
theorem nodeform4 (x : Ms) (hk : x.m.kd = 4) {w : World} (h : x.In w w.heap.size) (hs : x.m.Short) (f n : Int) (hf : 1 ≤ f ∧ f ≤ 4) :
    Calls Tryz.prog 91 #[.agg #[.int .i64 x.m.kd, .int .i64 x.m.fr, .int .i64 x.m.vw, .int .i64 x.m.ins, .int .i64 x.m.sq, .int .i64 x.m.rs, .slice x.A1 x.m.bt.length x.c1, .slice x.A2 x.m.vs.length x.c2, .slice x.A3 x.m.cs.length x.c3, .slice x.A4 x.m.ps.length x.c4], .int .i64 f, .int .i64 n] w fun e w' => e = .returned (.bool (voteS x.m f n)) ∧ Below w.heap.size w w' := by
  rw [hk]
  have HB := Lib.hid (show Below w.heap.size w (w.alloc (.cells #[.int .i64 4, .int .i64 x.m.fr, .int .i64 x.m.vw, .int .i64 x.m.ins, .int .i64 x.m.sq, .int .i64 x.m.rs, .slice x.A1 x.m.bt.length x.c1, .slice x.A2 x.m.vs.length x.c2, .slice x.A3 x.m.cs.length x.c3, .slice x.A4 x.m.ps.length x.c4] 38)) from (Below.refl _ w).alloc (Nat.le_refl _) _)
  have HBl := Lib.hid (show Blk (w.alloc (.cells #[.int .i64 4, .int .i64 x.m.fr, .int .i64 x.m.vw, .int .i64 x.m.ins, .int .i64 x.m.sq, .int .i64 x.m.rs, .slice x.A1 x.m.bt.length x.c1, .slice x.A2 x.m.vs.length x.c2, .slice x.A3 x.m.cs.length x.c3, .slice x.A4 x.m.ps.length x.c4] 38)) w.heap.size 38 #[.int .i64 4, .int .i64 x.m.fr, .int .i64 x.m.vw, .int .i64 x.m.ins, .int .i64 x.m.sq, .int .i64 x.m.rs, .slice x.A1 x.m.bt.length x.c1, .slice x.A2 x.m.vs.length x.c2, .slice x.A3 x.m.cs.length x.c3, .slice x.A4 x.m.ps.length x.c4] from Blk.new _ _ _)
  have _ := hf
  have HS := Lib.hid (mvoteform x (Reads.more HB.out.size _ _ (Reads.below HB.out (Nat.le_refl _) _ _ h.bt)) hs.bt f n)
  rw [hk] at HS
  clear h hs hk
  go_enter Tryz.func91, Tryz.ntmps91
  go_wp2_with fail
  refine HS.out.mono ?_
  rintro e w2 ⟨rfl, hb2⟩
  go_wp2_with fail
  go_ret
  exact ⟨rfl, HB.out.trans (hb2.mono HB.out.size)⟩
set_option maxHeartbeats 2000000 in
set_option maxRecDepth 100000 in
theorem nodeform5 (x : Ms) (hk : x.m.kd = 5) {w : World} (h : x.In w w.heap.size) (hs : x.m.Short) (f n : Int) (hf : 1 ≤ f ∧ f ≤ 4) :
    Calls Tryz.prog 91 #[.agg #[.int .i64 x.m.kd, .int .i64 x.m.fr, .int .i64 x.m.vw, .int .i64 x.m.ins, .int .i64 x.m.sq, .int .i64 x.m.rs, .slice x.A1 x.m.bt.length x.c1, .slice x.A2 x.m.vs.length x.c2, .slice x.A3 x.m.cs.length x.c3, .slice x.A4 x.m.ps.length x.c4], .int .i64 f, .int .i64 n] w fun e w' => e = .returned (.bool (voteS x.m f n)) ∧ Below w.heap.size w w' := by
  rw [hk]
  have HB := Lib.hid (show Below w.heap.size w (w.alloc (.cells #[.int .i64 5, .int .i64 x.m.fr, .int .i64 x.m.vw, .int .i64 x.m.ins, .int .i64 x.m.sq, .int .i64 x.m.rs, .slice x.A1 x.m.bt.length x.c1, .slice x.A2 x.m.vs.length x.c2, .slice x.A3 x.m.cs.length x.c3, .slice x.A4 x.m.ps.length x.c4] 38)) from (Below.refl _ w).alloc (Nat.le_refl _) _)
  have HBl := Lib.hid (show Blk (w.alloc (.cells #[.int .i64 5, .int .i64 x.m.fr, .int .i64 x.m.vw, .int .i64 x.m.ins, .int .i64 x.m.sq, .int .i64 x.m.rs, .slice x.A1 x.m.bt.length x.c1, .slice x.A2 x.m.vs.length x.c2, .slice x.A3 x.m.cs.length x.c3, .slice x.A4 x.m.ps.length x.c4] 38)) w.heap.size 38 #[.int .i64 5, .int .i64 x.m.fr, .int .i64 x.m.vw, .int .i64 x.m.ins, .int .i64 x.m.sq, .int .i64 x.m.rs, .slice x.A1 x.m.bt.length x.c1, .slice x.A2 x.m.vs.length x.c2, .slice x.A3 x.m.cs.length x.c3, .slice x.A4 x.m.ps.length x.c4] from Blk.new _ _ _)
  have _ := hf
  have HS := Lib.hid (mvoteform x (Reads.more HB.out.size _ _ (Reads.below HB.out (Nat.le_refl _) _ _ h.bt)) hs.bt f n)
  rw [hk] at HS
  clear h hs hk
  go_enter Tryz.func91, Tryz.ntmps91
  go_wp2_with fail
  refine HS.out.mono ?_
  rintro e w2 ⟨rfl, hb2⟩
  go_wp2_with fail
  go_ret
  exact ⟨rfl, HB.out.trans (hb2.mono HB.out.size)⟩
set_option maxHeartbeats 2000000 in
set_option maxRecDepth 100000 in
theorem nodeform3 (x : Ms) (hk : x.m.kd = 3) {w : World} (h : x.In w w.heap.size) (hs : x.m.Short) (f n : Int) (hf : 1 ≤ f ∧ f ≤ 4) :
    Calls Tryz.prog 91 #[.agg #[.int .i64 x.m.kd, .int .i64 x.m.fr, .int .i64 x.m.vw, .int .i64 x.m.ins, .int .i64 x.m.sq, .int .i64 x.m.rs, .slice x.A1 x.m.bt.length x.c1, .slice x.A2 x.m.vs.length x.c2, .slice x.A3 x.m.cs.length x.c3, .slice x.A4 x.m.ps.length x.c4], .int .i64 f, .int .i64 n] w fun e w' => e = .returned (.bool (decide (x.m.bt ≠ []) && voteS x.m f n && (x.m.fr == primaryS f x.m.vw x.m.ins))) ∧ Below w.heap.size w w' := by
  rw [hk]
  have HB := Lib.hid (show Below w.heap.size w (w.alloc (.cells #[.int .i64 3, .int .i64 x.m.fr, .int .i64 x.m.vw, .int .i64 x.m.ins, .int .i64 x.m.sq, .int .i64 x.m.rs, .slice x.A1 x.m.bt.length x.c1, .slice x.A2 x.m.vs.length x.c2, .slice x.A3 x.m.cs.length x.c3, .slice x.A4 x.m.ps.length x.c4] 38)) from (Below.refl _ w).alloc (Nat.le_refl _) _)
  have HBl := Lib.hid (show Blk (w.alloc (.cells #[.int .i64 3, .int .i64 x.m.fr, .int .i64 x.m.vw, .int .i64 x.m.ins, .int .i64 x.m.sq, .int .i64 x.m.rs, .slice x.A1 x.m.bt.length x.c1, .slice x.A2 x.m.vs.length x.c2, .slice x.A3 x.m.cs.length x.c3, .slice x.A4 x.m.ps.length x.c4] 38)) w.heap.size 38 #[.int .i64 3, .int .i64 x.m.fr, .int .i64 x.m.vw, .int .i64 x.m.ins, .int .i64 x.m.sq, .int .i64 x.m.rs, .slice x.A1 x.m.bt.length x.c1, .slice x.A2 x.m.vs.length x.c2, .slice x.A3 x.m.cs.length x.c3, .slice x.A4 x.m.ps.length x.c4] from Blk.new _ _ _)
  have _ := hf
  have HS := Lib.hid (mvoteform x (Reads.more HB.out.size _ _ (Reads.below HB.out (Nat.le_refl _) _ _ h.bt)) hs.bt f n)
  have HP := Lib.hid (fun w => mprimary x f w)
  rw [hk] at HS HP
  by_cases hb : x.m.bt = []
  · have HE := Lib.hid (show (decide (x.m.bt ≠ []) && voteS x.m f n && (x.m.fr == primaryS f x.m.vw x.m.ins)) = false by rw [decide_eq_false (by simpa using hb)]; rfl)
    have t0 : decide ((0 : Int) < (x.m.bt.length : Int)) = false := decide_eq_false (by rw [hb]; simp)
    have t1 : decide (0 < x.m.bt.length) = false := decide_eq_false (by rw [hb]; simp)
    have t2 : ¬ 0 < x.m.bt.length := by rw [hb]; simp
    rw [HE.out]
    clear h hs hk hb HS HP
    go_enter Tryz.func91, Tryz.ntmps91
    go_wp2_with fail
    go_ret
    exact ⟨rfl, HB.out⟩
  · have HE := Lib.hid (show (decide (x.m.bt ≠ []) && voteS x.m f n && (x.m.fr == primaryS f x.m.vw x.m.ins)) = (voteS x.m f n && (x.m.fr == primaryS f x.m.vw x.m.ins)) by rw [decide_eq_true hb]; rfl)
    have hp : 0 < x.m.bt.length := List.length_pos_iff.mpr hb
    have t0 : decide ((0 : Int) < (x.m.bt.length : Int)) = true := decide_eq_true (by omega)
    have t1 : decide (0 < x.m.bt.length) = true := decide_eq_true hp
    rw [HE.out]
    clear h hs hk hb HE
    cases hv : voteS x.m f n
    · rw [hv] at HS
      clear hv
      go_enter Tryz.func91, Tryz.ntmps91
      go_wp2_with fail
      refine HS.out.mono ?_
      rintro e w2 ⟨rfl, hb2⟩
      go_wp2_with fail
      go_ret
      exact ⟨rfl, HB.out.trans (hb2.mono HB.out.size)⟩
    · rw [hv] at HS
      clear hv
      go_enter Tryz.func91, Tryz.ntmps91
      go_wp2_with fail
      refine HS.out.mono ?_
      rintro e w2 ⟨rfl, hb2⟩
      have hx2 := HBl.out.below hb2 HBl.out.lt
      have HB2 := Lib.hid (HB.out.trans (hb2.mono HB.out.size))
      have e0 := hx2.cell 0
      have e1 := hx2.cell 1
      have e2 := hx2.cell 2
      have e3 := hx2.cell 3
      have e4 := hx2.cell 4
      have e5 := hx2.cell 5
      have e6 := hx2.cell 6
      have e7 := hx2.cell 7
      have e8 := hx2.cell 8
      have e9 := hx2.cell 9
      simp only [List.getElem?_toArray, List.getElem?_cons_zero, List.getElem?_cons_succ] at e0 e1 e2 e3 e4 e5 e6 e7 e8 e9
      clear hb2 hx2 HS
      go_wp2_with fail
      refine (HP.out _).mono ?_
      rintro e w3 ⟨rfl, hb3⟩
      go_wp2_with fail
      go_ret
      exact ⟨by simp, HB2.out.trans (hb3.mono HB2.out.size)⟩
set_option maxHeartbeats 2000000 in
set_option maxRecDepth 100000 in
theorem nodeform7 (x : Ms) (hk : x.m.kd = 7) {w : World} (h : x.In w w.heap.size) (hs : x.m.Short) (f n : Int) (hf : 1 ≤ f ∧ f ≤ 4) :
    Calls Tryz.prog 91 #[.agg #[.int .i64 x.m.kd, .int .i64 x.m.fr, .int .i64 x.m.vw, .int .i64 x.m.ins, .int .i64 x.m.sq, .int .i64 x.m.rs, .slice x.A1 x.m.bt.length x.c1, .slice x.A2 x.m.vs.length x.c2, .slice x.A3 x.m.cs.length x.c3, .slice x.A4 x.m.ps.length x.c4], .int .i64 f, .int .i64 n] w fun e w' => e = .returned (.bool (leavesS x.m.vw x.m.vs x.m.cs f n)) ∧ Below w.heap.size w w' := by
  rw [hk]
  have HB := Lib.hid (show Below w.heap.size w (w.alloc (.cells #[.int .i64 7, .int .i64 x.m.fr, .int .i64 x.m.vw, .int .i64 x.m.ins, .int .i64 x.m.sq, .int .i64 x.m.rs, .slice x.A1 x.m.bt.length x.c1, .slice x.A2 x.m.vs.length x.c2, .slice x.A3 x.m.cs.length x.c3, .slice x.A4 x.m.ps.length x.c4] 38)) from (Below.refl _ w).alloc (Nat.le_refl _) _)
  have HBl := Lib.hid (show Blk (w.alloc (.cells #[.int .i64 7, .int .i64 x.m.fr, .int .i64 x.m.vw, .int .i64 x.m.ins, .int .i64 x.m.sq, .int .i64 x.m.rs, .slice x.A1 x.m.bt.length x.c1, .slice x.A2 x.m.vs.length x.c2, .slice x.A3 x.m.cs.length x.c3, .slice x.A4 x.m.ps.length x.c4] 38)) w.heap.size 38 #[.int .i64 7, .int .i64 x.m.fr, .int .i64 x.m.vw, .int .i64 x.m.ins, .int .i64 x.m.sq, .int .i64 x.m.rs, .slice x.A1 x.m.bt.length x.c1, .slice x.A2 x.m.vs.length x.c2, .slice x.A3 x.m.cs.length x.c3, .slice x.A4 x.m.ps.length x.c4] from Blk.new _ _ _)
  have _ := hf
  have HI1 := h.reads (Reads.below HB.out (Nat.le_refl _)) |>.reads (Reads.more HB.out.size)
  have HC := Lib.hid (mchange_any (c1 := x.c2) (c3 := x.c3) HI1.vs hs.vs HI1.cs hs.cs hs.each x.m.vw f n)
  have HW := Lib.hid (fun w => mwithin x.m.vw 1 12 w)
  clear h hs hk HI1
  by_cases hv : 1 ≤ x.m.vw ∧ x.m.vw ≤ 12
  · have t1 : (decide (1 ≤ x.m.vw) && decide (x.m.vw ≤ 12)) = true := by simp [hv]
    rw [t1] at HW
    rw [leavesS_in hv]
    clear hv t1
    go_enter Tryz.func91, Tryz.ntmps91
    go_wp2_with fail
    refine (HW.out _).mono ?_
    rintro e w1 ⟨rfl, rfl⟩
    go_wp2_with fail
    refine HC.out.mono ?_
    rintro e w2 ⟨rfl, hb2⟩
    go_wp2_with fail
    go_ret
    exact ⟨rfl, HB.out.trans (hb2.mono HB.out.size)⟩
  · have t1 : (decide (1 ≤ x.m.vw) && decide (x.m.vw ≤ 12)) = false := by rw [Bool.eq_false_iff]; simp; omega
    rw [t1] at HW
    rw [leaves_no0 (Or.inl hv)]
    clear hv t1
    go_enter Tryz.func91, Tryz.ntmps91
    go_wp2_with fail
    refine (HW.out _).mono ?_
    rintro e w1 ⟨rfl, rfl⟩
    go_wp2_with fail
    go_ret
    exact ⟨rfl, HB.out⟩
set_option maxHeartbeats 2000000 in
set_option maxRecDepth 100000 in
theorem nodeform8 (x : Ms) (hk : x.m.kd = 8) {w : World} (h : x.In w w.heap.size) (hs : x.m.Short) (f n : Int) (hf : 1 ≤ f ∧ f ≤ 4) :
    Calls Tryz.prog 91 #[.agg #[.int .i64 x.m.kd, .int .i64 x.m.fr, .int .i64 x.m.vw, .int .i64 x.m.ins, .int .i64 x.m.sq, .int .i64 x.m.rs, .slice x.A1 x.m.bt.length x.c1, .slice x.A2 x.m.vs.length x.c2, .slice x.A3 x.m.cs.length x.c3, .slice x.A4 x.m.ps.length x.c4], .int .i64 f, .int .i64 n] w fun e w' => e = .returned (.bool (decide (1 ≤ x.m.vw ∧ x.m.vw ≤ 12) && (x.m.fr == primaryS f x.m.vw x.m.ins) && partsS x.m.vw x.m.ps f n)) ∧ Below w.heap.size w w' := by
  rw [hk]
  have HB := Lib.hid (show Below w.heap.size w (w.alloc (.cells #[.int .i64 8, .int .i64 x.m.fr, .int .i64 x.m.vw, .int .i64 x.m.ins, .int .i64 x.m.sq, .int .i64 x.m.rs, .slice x.A1 x.m.bt.length x.c1, .slice x.A2 x.m.vs.length x.c2, .slice x.A3 x.m.cs.length x.c3, .slice x.A4 x.m.ps.length x.c4] 38)) from (Below.refl _ w).alloc (Nat.le_refl _) _)
  have HBl := Lib.hid (show Blk (w.alloc (.cells #[.int .i64 8, .int .i64 x.m.fr, .int .i64 x.m.vw, .int .i64 x.m.ins, .int .i64 x.m.sq, .int .i64 x.m.rs, .slice x.A1 x.m.bt.length x.c1, .slice x.A2 x.m.vs.length x.c2, .slice x.A3 x.m.cs.length x.c3, .slice x.A4 x.m.ps.length x.c4] 38)) w.heap.size 38 #[.int .i64 8, .int .i64 x.m.fr, .int .i64 x.m.vw, .int .i64 x.m.ins, .int .i64 x.m.sq, .int .i64 x.m.rs, .slice x.A1 x.m.bt.length x.c1, .slice x.A2 x.m.vs.length x.c2, .slice x.A3 x.m.cs.length x.c3, .slice x.A4 x.m.ps.length x.c4] from Blk.new _ _ _)
  have HP := Lib.hid (fun w => mprimary x f w)
  rw [hk] at HP
  have HI := Lib.hid h
  have HW := Lib.hid (fun w => mwithin x.m.vw 1 12 w)
  have HPS := Lib.hid hs.ps
  have HF := Lib.hid hf
  clear h hs hk hf
  by_cases hv : 1 ≤ x.m.vw ∧ x.m.vw ≤ 12
  · have t1 : (decide (1 ≤ x.m.vw) && decide (x.m.vw ≤ 12)) = true := by simp [hv]
    rw [t1] at HW
    rw [decide_eq_true hv, Bool.true_and]
    have HV := Lib.hid hv
    clear hv t1
    cases hpr : (x.m.fr == primaryS f x.m.vw x.m.ins)
    · rw [hpr] at HP
      clear hpr
      go_enter Tryz.func91, Tryz.ntmps91
      go_wp2_with fail
      refine (HW.out _).mono ?_
      rintro e w1 ⟨rfl, rfl⟩
      go_wp2_with fail
      refine (HP.out _).mono ?_
      rintro e w2 ⟨rfl, hb2⟩
      go_wp2_with fail
      go_ret
      exact ⟨rfl, HB.out.trans (hb2.mono HB.out.size)⟩
    · rw [hpr] at HP
      clear hpr
      go_enter Tryz.func91, Tryz.ntmps91
      go_wp2_with fail
      refine (HW.out _).mono ?_
      rintro e w1 ⟨rfl, rfl⟩
      go_wp2_with fail
      refine (HP.out _).mono ?_
      rintro e w2 ⟨rfl, hb2⟩
      have hx2 := HBl.out.below hb2 HBl.out.lt
      have HB2 := Lib.hid (HB.out.trans (hb2.mono HB.out.size))
      have e2 := hx2.cell 2
      have e9 := hx2.cell 9
      simp only [List.getElem?_toArray, List.getElem?_cons_zero, List.getElem?_cons_succ] at e2 e9
      have hi2 := HI.out.reads (Reads.below HB2.out (Nat.le_refl _)) |>.reads (Reads.more HB2.out.size)
      have HC := Lib.hid (mparts_any (c := x.c4) hi2.ps HPS.out x.m.vw f n HV.out HF.out)
      clear hb2 hx2 hi2
      go_wp2_with fail
      refine HC.out.mono ?_
      rintro e w3 ⟨rfl, hb3⟩
      go_wp2_with fail
      go_ret
      exact ⟨rfl, HB2.out.trans (hb3.mono HB2.out.size)⟩
  · have t1 : (decide (1 ≤ x.m.vw) && decide (x.m.vw ≤ 12)) = false := by rw [Bool.eq_false_iff]; simp; omega
    rw [t1] at HW
    rw [decide_eq_false hv]
    clear hv t1
    go_enter Tryz.func91, Tryz.ntmps91
    go_wp2_with fail
    refine (HW.out _).mono ?_
    rintro e w1 ⟨rfl, rfl⟩
    go_wp2_with fail
    go_ret
    exact ⟨rfl, HB.out⟩
/-- One certificate, and it is of form. -/
def oneC (l : List Ct) (f n : Int) : Bool := match l with | [c] => certS f n c | _ => false
theorem oneC_is {l : List Ct} {x : Ct} {f n : Int} (h : l.length = 1) (hx : l[0]? = some x) : oneC l f n = certS f n x := by
  match l, h with
  | [r], _ => cases hx; rfl
theorem oneC_no {l : List Ct} {f n : Int} (h : l.length ≠ 1) : oneC l f n = false := by
  match l, h with
  | [], _ => rfl
  | [_], h => exact absurd rfl h
  | _ :: _ :: _, _ => rfl
set_option maxHeartbeats 2000000 in
set_option maxRecDepth 100000 in
theorem nodeform9 (x : Ms) (hk : x.m.kd = 9) {w : World} (h : x.In w w.heap.size) (hs : x.m.Short) (f n : Int) (hf : 1 ≤ f ∧ f ≤ 4) :
    Calls Tryz.prog 91 #[.agg #[.int .i64 x.m.kd, .int .i64 x.m.fr, .int .i64 x.m.vw, .int .i64 x.m.ins, .int .i64 x.m.sq, .int .i64 x.m.rs, .slice x.A1 x.m.bt.length x.c1, .slice x.A2 x.m.vs.length x.c2, .slice x.A3 x.m.cs.length x.c3, .slice x.A4 x.m.ps.length x.c4], .int .i64 f, .int .i64 n] w fun e w' => e = .returned (.bool (oneC x.m.cs f n)) ∧ Below w.heap.size w w' := by
  rw [hk]
  have HB := Lib.hid (show Below w.heap.size w (w.alloc (.cells #[.int .i64 9, .int .i64 x.m.fr, .int .i64 x.m.vw, .int .i64 x.m.ins, .int .i64 x.m.sq, .int .i64 x.m.rs, .slice x.A1 x.m.bt.length x.c1, .slice x.A2 x.m.vs.length x.c2, .slice x.A3 x.m.cs.length x.c3, .slice x.A4 x.m.ps.length x.c4] 38)) from (Below.refl _ w).alloc (Nat.le_refl _) _)
  have HBl := Lib.hid (show Blk (w.alloc (.cells #[.int .i64 9, .int .i64 x.m.fr, .int .i64 x.m.vw, .int .i64 x.m.ins, .int .i64 x.m.sq, .int .i64 x.m.rs, .slice x.A1 x.m.bt.length x.c1, .slice x.A2 x.m.vs.length x.c2, .slice x.A3 x.m.cs.length x.c3, .slice x.A4 x.m.ps.length x.c4] 38)) w.heap.size 38 #[.int .i64 9, .int .i64 x.m.fr, .int .i64 x.m.vw, .int .i64 x.m.ins, .int .i64 x.m.sq, .int .i64 x.m.rs, .slice x.A1 x.m.bt.length x.c1, .slice x.A2 x.m.vs.length x.c2, .slice x.A3 x.m.cs.length x.c3, .slice x.A4 x.m.ps.length x.c4] from Blk.new _ _ _)
  have _ := hf
  obtain ⟨L, hLc, hL, hLI⟩ := h.cs
  have hll : L.length = x.m.cs.length := by rw [← hLc]; simp
  by_cases h1 : x.m.cs.length = 1
  · have hlt : 0 < L.length := by omega
    obtain ⟨ad, hA, c0, c1, c2, c3, c4⟩ := five_at (hL.below HB.out (Nat.le_refl _)) hlt
    obtain ⟨y, hy⟩ : ∃ y, L[0] = y := ⟨_, rfl⟩
    rw [hy] at c0 c1 c2 c3 c4
    have hym : y ∈ L := hy ▸ List.getElem_mem hlt
    have hyc : y.c ∈ x.m.cs := by rw [← hLc]; exact List.mem_map_of_mem hym
    have HE := Lib.hid (oneC_is (f := f) (n := n) (x := y.c) h1 (by rw [← hLc, List.getElem?_map, List.getElem?_eq_getElem hlt, hy]; rfl))
    have HC := Lib.hid (mcert_any y ((hLI y hym).reads (Reads.below HB.out (Nat.le_refl _)) |>.reads (Reads.more HB.out.size)) ⟨(hs.each _ hyc).1, (hs.each _ hyc).2⟩ f n)
    have e0 : ad.add (0 * 5) = ad := rfl
    rw [e0] at c0 c1 c2 c3 c4
    have t0 : ((x.m.cs.length : Int) == 1) = true := by rw [h1]; rfl
    have t1 : (0 : Int) < (x.m.cs.length : Int) := by omega
    have t2 : 0 < x.m.cs.length := by omega
    rw [HE.out]
    rw [hA] at HB HBl ⊢
    rw [hA] at c0 c1 c2 c3 c4 HC
    clear hy hym hyc e0 h1 hlt hll h hs hL hLI hLc HE hk
    go_enter Tryz.func91, Tryz.ntmps91
    go_wp2_with fail
    refine HC.out.mono ?_
    rintro e w2 ⟨rfl, hb2⟩
    go_wp2_with fail
    go_ret
    exact ⟨rfl, HB.out.trans (hb2.mono HB.out.size)⟩
  · have HE := Lib.hid (oneC_no (f := f) (n := n) h1)
    have t0 : ((x.m.cs.length : Int) == 1) = false := by rw [beq_eq_false_iff_ne]; omega
    rw [HE.out]
    clear h1 hll h hs hL hLI hLc HE hk
    go_enter Tryz.func91, Tryz.ntmps91
    go_wp2_with fail
    go_ret
    exact ⟨rfl, HB.out⟩

set_option maxHeartbeats 2000000 in
set_option maxRecDepth 100000 in
theorem nodeform10 (x : Ms) (hk : x.m.kd = 10) {w : World} (h : x.In w w.heap.size) (hs : x.m.Short) (f n : Int) (hf : 1 ≤ f ∧ f ≤ 4) :
    Calls Tryz.prog 91 #[.agg #[.int .i64 x.m.kd, .int .i64 x.m.fr, .int .i64 x.m.vw, .int .i64 x.m.ins, .int .i64 x.m.sq, .int .i64 x.m.rs, .slice x.A1 x.m.bt.length x.c1, .slice x.A2 x.m.vs.length x.c2, .slice x.A3 x.m.cs.length x.c3, .slice x.A4 x.m.ps.length x.c4], .int .i64 f, .int .i64 n] w fun e w' => e = .returned (.bool (decide (0 ≤ x.m.ins ∧ x.m.ins < n ∧ 1 ≤ x.m.sq ∧ x.m.sq ≤ 1048576 ∧ -549755813888 < x.m.rs ∧ x.m.rs < 549755813888))) ∧ Below w.heap.size w w' := by
  rw [hk]
  have HB := Lib.hid (show Below w.heap.size w (w.alloc (.cells #[.int .i64 10, .int .i64 x.m.fr, .int .i64 x.m.vw, .int .i64 x.m.ins, .int .i64 x.m.sq, .int .i64 x.m.rs, .slice x.A1 x.m.bt.length x.c1, .slice x.A2 x.m.vs.length x.c2, .slice x.A3 x.m.cs.length x.c3, .slice x.A4 x.m.ps.length x.c4] 38)) from (Below.refl _ w).alloc (Nat.le_refl _) _)
  have HBl := Lib.hid (show Blk (w.alloc (.cells #[.int .i64 10, .int .i64 x.m.fr, .int .i64 x.m.vw, .int .i64 x.m.ins, .int .i64 x.m.sq, .int .i64 x.m.rs, .slice x.A1 x.m.bt.length x.c1, .slice x.A2 x.m.vs.length x.c2, .slice x.A3 x.m.cs.length x.c3, .slice x.A4 x.m.ps.length x.c4] 38)) w.heap.size 38 #[.int .i64 10, .int .i64 x.m.fr, .int .i64 x.m.vw, .int .i64 x.m.ins, .int .i64 x.m.sq, .int .i64 x.m.rs, .slice x.A1 x.m.bt.length x.c1, .slice x.A2 x.m.vs.length x.c2, .slice x.A3 x.m.cs.length x.c3, .slice x.A4 x.m.ps.length x.c4] from Blk.new _ _ _)
  have _ := h
  have _ := hs
  have _ := hf
  have W1 := Lib.hid (fun w => mwithin x.m.sq 1 1048576 w)
  have W2 := Lib.hid (fun w => mwithin x.m.rs (-549755813887) 549755813887 w)
  have HE := Lib.hid (show decide (0 ≤ x.m.ins ∧ x.m.ins < n ∧ 1 ≤ x.m.sq ∧ x.m.sq ≤ 1048576 ∧ -549755813888 < x.m.rs ∧ x.m.rs < 549755813888) = (((decide (0 ≤ x.m.ins) && decide (x.m.ins < n)) && (decide (1 ≤ x.m.sq) && decide (x.m.sq ≤ 1048576))) && (decide (-549755813887 ≤ x.m.rs) && decide (x.m.rs ≤ 549755813887))) by rw [Bool.eq_iff_iff]; simp; omega)
  rw [HE.out]
  obtain ⟨r1, hr1⟩ : ∃ r, (decide (1 ≤ x.m.sq) && decide (x.m.sq ≤ 1048576)) = r := ⟨_, rfl⟩
  obtain ⟨r2, hr2⟩ : ∃ r, (decide (-549755813887 ≤ x.m.rs) && decide (x.m.rs ≤ 549755813887)) = r := ⟨_, rfl⟩
  rw [hr1] at W1 ⊢
  rw [hr2] at W2 ⊢
  clear h hs hk hf hr1 hr2 HE
  cases h1 : decide (0 ≤ x.m.ins)
  · have t1 : decide ((0 : Int) ≤ x.m.ins) = false := h1
    clear h1
    go_enter Tryz.func91, Tryz.ntmps91
    go_wp2_with fail
    go_ret
    exact ⟨rfl, HB.out⟩
  · have t1 : decide ((0 : Int) ≤ x.m.ins) = true := h1
    clear h1
    cases h2 : decide (x.m.ins < n)
    · have t2 : decide (x.m.ins < n) = false := h2
      clear h2
      go_enter Tryz.func91, Tryz.ntmps91
      go_wp2_with fail
      go_ret
      exact ⟨rfl, HB.out⟩
    · have t2 : decide (x.m.ins < n) = true := h2
      clear h2
      cases r1
      ·
        go_enter Tryz.func91, Tryz.ntmps91
        go_wp2_with fail
        refine (W1.out _).mono ?_
        rintro e w1 ⟨rfl, rfl⟩
        go_wp2_with fail
        go_ret
        exact ⟨rfl, HB.out⟩
      ·
        go_enter Tryz.func91, Tryz.ntmps91
        go_wp2_with fail
        refine (W1.out _).mono ?_
        rintro e w1 ⟨rfl, rfl⟩
        go_wp2_with fail
        refine (W2.out _).mono ?_
        rintro e w1 ⟨rfl, rfl⟩
        go_wp2_with fail
        go_ret
        exact ⟨by simp, HB.out⟩
set_option maxHeartbeats 2000000 in
set_option maxRecDepth 100000 in
theorem nodeform_no (x : Ms) (h : x.m.kd < 2 ∨ 10 < x.m.kd) (f n : Int) (w : World) :
    Calls Tryz.prog 91 #[.agg #[.int .i64 x.m.kd, .int .i64 x.m.fr, .int .i64 x.m.vw, .int .i64 x.m.ins, .int .i64 x.m.sq, .int .i64 x.m.rs, .slice x.A1 x.m.bt.length x.c1, .slice x.A2 x.m.vs.length x.c2, .slice x.A3 x.m.cs.length x.c3, .slice x.A4 x.m.ps.length x.c4], .int .i64 f, .int .i64 n] w fun e w' => e = .returned (.bool false) ∧ Below w.heap.size w w' := by
  have HB := Lib.hid (show Below w.heap.size w (w.alloc (.cells #[.int .i64 x.m.kd, .int .i64 x.m.fr, .int .i64 x.m.vw, .int .i64 x.m.ins, .int .i64 x.m.sq, .int .i64 x.m.rs, .slice x.A1 x.m.bt.length x.c1, .slice x.A2 x.m.vs.length x.c2, .slice x.A3 x.m.cs.length x.c3, .slice x.A4 x.m.ps.length x.c4] 38)) from (Below.refl _ w).alloc (Nat.le_refl _) _)
  have t2 : (x.m.kd == 2) = false := by rw [beq_eq_false_iff_ne]; omega
  have t3 : (x.m.kd == 3) = false := by rw [beq_eq_false_iff_ne]; omega
  have t4 : (x.m.kd == 4) = false := by rw [beq_eq_false_iff_ne]; omega
  have t5 : (x.m.kd == 5) = false := by rw [beq_eq_false_iff_ne]; omega
  have t6 : (x.m.kd == 6) = false := by rw [beq_eq_false_iff_ne]; omega
  have t7 : (x.m.kd == 7) = false := by rw [beq_eq_false_iff_ne]; omega
  have t8 : (x.m.kd == 8) = false := by rw [beq_eq_false_iff_ne]; omega
  have t9 : (x.m.kd == 9) = false := by rw [beq_eq_false_iff_ne]; omega
  have t10 : (x.m.kd == 10) = false := by rw [beq_eq_false_iff_ne]; omega
  clear h
  go_enter Tryz.func91, Tryz.ntmps91
  go_wp2_with fail
  go_ret
  exact ⟨rfl, HB.out⟩
end Go.Proofs.YtbegjadohamkkaaGreat
