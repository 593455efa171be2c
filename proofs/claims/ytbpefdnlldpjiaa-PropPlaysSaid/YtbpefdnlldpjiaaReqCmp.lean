/- The contracts of cmp.Compare and cmp.Or at ints, and of reqs.Compare: what it leaves are new blocks alone. -/
import Derived.Test.YtbpefdnlldpjiaaRefComp
import Derived.Deep.RegionHeld3
import Derived.Sort.Grow
namespace Go.Proofs.Ytbpefdnlldpjiaa
open Go.RowKit Go.Sort

def cmpI (x y : Int) : Int := if x < y then -1 else if y < x then 1 else 0
theorem int_cmp (x y : Int) (w : World) : Calls Try.prog 54 #[.int .i64 x, .int .i64 y] w fun e w' => e = .returned (.int .i64 (cmpI x y)) ∧ w' = w := by
  go_enter Try.func54, Try.ntmps54
  go_wp2
  all_goals go_ret
  all_goals refine ⟨congrArg (fun b => Ending.returned (.int .i64 b)) ?_, rfl⟩
  all_goals (unfold cmpI; repeat' split) <;> omega
def orS : List Int → Int
  | [] => 0
  | x :: l => if x = 0 then orS l else x
theorem orS_zero {x : Int} {l m : List Int} (h : l = x :: m) (hx : x = 0) : orS l = orS m := by rw [h, orS, if_pos hx]
theorem orS_here {x : Int} {l m : List Int} (h : l = x :: m) (hx : x ≠ 0) : orS l = x := by rw [h, orS, if_neg hx]
set_option maxHeartbeats 400000 in
theorem int_or (A : Option Addr) (c : Nat) (zs : List Int) (B : Nat) (w : World) (hl : zs.length ≤ 9223372036854775806) (h1 : Has w B A (zs.map (Value.int .i64))) :
    Calls Try.prog 53 #[.slice A zs.length c] w fun e w' => e = .returned (.int .i64 (orS zs)) ∧ w' = w := by
  have H1 := Lib.hid h1
  clear h1
  go_enter Try.func53, Try.ntmps53
  go_wp2
  go_loopw [8] (fun x wr => ∃ k : Nat, x = .int .i64 k ∧ k ≤ zs.length ∧ wr = w ∧ Hid (orS zs = orS (zs.drop k))) (fun x _ => zs.length - (intOf x).toNat)
  case atStart => exact ⟨0, rfl, Nat.zero_le _, by trivial, rfl⟩
  case round =>
    obtain ⟨k, rfl, hk, rfl, HT⟩ := hrel
    by_cases hlt : k < zs.length
    · obtain ⟨ad, x, rfl, _, hc, hd, _⟩ := H1.out.int hlt
      by_cases hx : x = 0
      · have HN := Lib.hid (HT.out.trans (orS_zero hd hx))
        subst hx
        clear hd
        go_wp2
        go_roundw
        case rel => exact ⟨k + 1, by go_num, by omega, by trivial, HN.out⟩
        case measure => simp [intOf]; omega
      · have HN := Lib.hid (HT.out.trans (orS_here hd hx))
        clear hd
        go_wp2
        go_ret
        exact ⟨by rw [HN.out]; rfl, rfl⟩
    · have HN := Lib.hid (show orS zs = 0 by rw [HT.out, List.drop_eq_nil_of_le (by omega)]; rfl)
      go_wp2
      go_ret
      exact ⟨by rw [HN.out]; rfl, rfl⟩
theorem cmpL_or : ∀ {l m : List Int}, l.length = m.length → cmpL l m = orS (List.zipWith cmpI l m)
  | [], [], _ => rfl
  | x :: l, y :: m, h => by
    have ih := cmpL_or (l := l) (m := m) (by simpa using h)
    rw [List.zipWith_cons_cons, orS, ← ih, cmpL]
    unfold cmpI
    by_cases h1 : x < y
    · rw [if_pos h1, if_pos h1]; rfl
    · rw [if_neg h1, if_neg h1]
      by_cases h2 : y < x
      · rw [if_pos h2, if_pos h2]; rfl
      · rw [if_neg h2, if_neg h2]; rfl
theorem cmpR_or (a b : Rq) : cmpR a b = orS [cmpI a.cl b.cl, cmpI a.tm b.tm, cmpI a.kd b.kd, cmpI a.ky b.ky, cmpI a.vl b.vl, cmpI a.sg b.sg] := cmpL_or (l := a.key) (m := b.key) rfl
theorem or_six (W : World) (c1 c2 c3 c4 c5 c6 : Int) : Calls Try.prog 53 #[.slice (some ⟨W.heap.size, 0, none⟩) 6 6] (W.alloc (.cells #[.int .i64 c1, .int .i64 c2, .int .i64 c3, .int .i64 c4, .int .i64 c5, .int .i64 c6] 3)) fun e w' => e = .returned (.int .i64 (orS [c1, c2, c3, c4, c5, c6])) ∧ w' = W.alloc (.cells #[.int .i64 c1, .int .i64 c2, .int .i64 c3, .int .i64 c4, .int .i64 c5, .int .i64 c6] 3) :=
  int_or (some ⟨W.heap.size, 0, none⟩) 6 [c1, c2, c3, c4, c5, c6] (W.heap.size + 1) _ (by simp) (Has.fresh W #[.int .i64 c1, .int .i64 c2, .int .i64 c3, .int .i64 c4, .int .i64 c5, .int .i64 c6] 3)
theorem below_grow (w : World) (q : Nat) (os : Array Obj) : Below w.heap.size w (grow (w.drewN q) os) := by
  refine ⟨rfl, rfl, rfl, ?_, fun k hk => ?_⟩
  · show w.heap.size ≤ (w.heap ++ os).size
    simp
  · show (w.heap ++ os)[k]? = _
    rw [Array.getElem?_append_left hk]
set_option maxHeartbeats 4000000 in
theorem compare_grow (a b : Rq) (w : World) :
    Calls Try.prog 43 #[.agg #[.int .i64 a.cl, .int .i64 a.tm, .int .i64 a.kd, .int .i64 a.ky, .int .i64 a.vl, .int .i64 a.sg], .agg #[.int .i64 b.cl, .int .i64 b.tm, .int .i64 b.kd, .int .i64 b.ky, .int .i64 b.vl, .int .i64 b.sg]] w fun e w' => e = .returned (.int .i64 (cmpR a b)) ∧ ∃ q os, w' = grow (w.drewN q) os := by
  have K1 := Lib.hid (fun w => int_cmp a.cl b.cl w)
  have K2 := Lib.hid (fun w => int_cmp a.tm b.tm w)
  have K3 := Lib.hid (fun w => int_cmp a.kd b.kd w)
  have K4 := Lib.hid (fun w => int_cmp a.ky b.ky w)
  have K5 := Lib.hid (fun w => int_cmp a.vl b.vl w)
  have K6 := Lib.hid (fun w => int_cmp a.sg b.sg w)
  have HR := Lib.hid (cmpR_or a b)
  obtain ⟨c1, hc1⟩ : ∃ c, cmpI a.cl b.cl = c := ⟨_, rfl⟩
  obtain ⟨c2, hc2⟩ : ∃ c, cmpI a.tm b.tm = c := ⟨_, rfl⟩
  obtain ⟨c3, hc3⟩ : ∃ c, cmpI a.kd b.kd = c := ⟨_, rfl⟩
  obtain ⟨c4, hc4⟩ : ∃ c, cmpI a.ky b.ky = c := ⟨_, rfl⟩
  obtain ⟨c5, hc5⟩ : ∃ c, cmpI a.vl b.vl = c := ⟨_, rfl⟩
  obtain ⟨c6, hc6⟩ : ∃ c, cmpI a.sg b.sg = c := ⟨_, rfl⟩
  rw [hc1] at K1 HR
  rw [hc2] at K2 HR
  rw [hc3] at K3 HR
  rw [hc4] at K4 HR
  rw [hc5] at K5 HR
  rw [hc6] at K6 HR
  clear hc1 hc2 hc3 hc4 hc5 hc6
  obtain ⟨cr, hcr⟩ : ∃ c, orS [c1, c2, c3, c4, c5, c6] = c := ⟨_, rfl⟩
  have KO := Lib.hid (fun W => or_six W c1 c2 c3 c4 c5 c6)
  rw [hcr] at HR KO
  clear hcr
  go_enter Try.func43, Try.ntmps43
  go_wp2_with fail
  have HB0 := Lib.hid (show Blk ((w.alloc (.cells #[.int .i64 a.cl, .int .i64 a.tm, .int .i64 a.kd, .int .i64 a.ky, .int .i64 a.vl, .int .i64 a.sg] 25)).alloc (.cells #[.int .i64 b.cl, .int .i64 b.tm, .int .i64 b.kd, .int .i64 b.ky, .int .i64 b.vl, .int .i64 b.sg] 25)) w.heap.size 25 _ ∧ Blk ((w.alloc (.cells #[.int .i64 a.cl, .int .i64 a.tm, .int .i64 a.kd, .int .i64 a.ky, .int .i64 a.vl, .int .i64 a.sg] 25)).alloc (.cells #[.int .i64 b.cl, .int .i64 b.tm, .int .i64 b.kd, .int .i64 b.ky, .int .i64 b.vl, .int .i64 b.sg] 25)) (w.heap.size + 1) 25 _ from
    ⟨(Blk.new w _ _).alloc _, Blk.new1 w _ _ _⟩)
  have HG0 := Lib.hid (show ∃ os, ((w.alloc (.cells #[.int .i64 a.cl, .int .i64 a.tm, .int .i64 a.kd, .int .i64 a.ky, .int .i64 a.vl, .int .i64 a.sg] 25)).alloc (.cells #[.int .i64 b.cl, .int .i64 b.tm, .int .i64 b.kd, .int .i64 b.ky, .int .i64 b.vl, .int .i64 b.sg] 25)) = grow w os from
    ⟨_, by rw [alloc_eq_grow, alloc_eq_grow, grow_grow]⟩)
  obtain ⟨w1, hw1⟩ : ∃ w1, (w.alloc (.cells #[.int .i64 a.cl, .int .i64 a.tm, .int .i64 a.kd, .int .i64 a.ky, .int .i64 a.vl, .int .i64 a.sg] 25)).alloc (.cells #[.int .i64 b.cl, .int .i64 b.tm, .int .i64 b.kd, .int .i64 b.ky, .int .i64 b.vl, .int .i64 b.sg] 25) = w1 := ⟨_, rfl⟩
  rw [hw1] at HB0 HG0 ⊢
  clear hw1
  obtain ⟨g1, hg1⟩ : ∃ g1, w.heap.size = g1 := ⟨_, rfl⟩
  obtain ⟨g2, hg2⟩ : ∃ g2, w.heap.size + 1 = g2 := ⟨_, rfl⟩
  rw [hg2, hg1] at HB0 ⊢
  clear hg1 hg2
  have d0 := HB0.out.1.cell 0
  have d1 := HB0.out.1.cell 1
  have d2 := HB0.out.1.cell 2
  have d3 := HB0.out.1.cell 3
  have d4 := HB0.out.1.cell 4
  have d5 := HB0.out.1.cell 5
  have e0 := HB0.out.2.cell 0
  have e1 := HB0.out.2.cell 1
  have e2 := HB0.out.2.cell 2
  have e3 := HB0.out.2.cell 3
  have e4 := HB0.out.2.cell 4
  have e5 := HB0.out.2.cell 5
  simp only [List.getElem?_toArray, List.getElem?_cons_zero, List.getElem?_cons_succ] at d0 d1 d2 d3 d4 d5 e0 e1 e2 e3 e4 e5
  clear HB0
  go_region_held3 (fun w' => w'.cell? ⟨g1, 0, none⟩ = some (.int .i64 a.cl) ∧ w'.cell? ⟨g1, 1, none⟩ = some (.int .i64 a.tm) ∧ w'.cell? ⟨g1, 2, none⟩ = some (.int .i64 a.kd) ∧ w'.cell? ⟨g1, 3, none⟩ = some (.int .i64 a.ky) ∧ w'.cell? ⟨g1, 4, none⟩ = some (.int .i64 a.vl) ∧ w'.cell? ⟨g1, 5, none⟩ = some (.int .i64 a.sg) ∧ w'.cell? ⟨g2, 0, none⟩ = some (.int .i64 b.cl) ∧ w'.cell? ⟨g2, 1, none⟩ = some (.int .i64 b.tm) ∧ w'.cell? ⟨g2, 2, none⟩ = some (.int .i64 b.kd) ∧ w'.cell? ⟨g2, 3, none⟩ = some (.int .i64 b.ky) ∧ w'.cell? ⟨g2, 4, none⟩ = some (.int .i64 b.vl) ∧ w'.cell? ⟨g2, 5, none⟩ = some (.int .i64 b.sg))
    (go_keep)
    (first | (go_at_call 54; (with_reducible refine (K1.out _).mono ?_); rintro e w' ⟨rfl, rfl⟩)
           | (go_at_call 54; (with_reducible refine (K2.out _).mono ?_); rintro e w' ⟨rfl, rfl⟩)
           | (go_at_call 54; (with_reducible refine (K3.out _).mono ?_); rintro e w' ⟨rfl, rfl⟩)
           | (go_at_call 54; (with_reducible refine (K4.out _).mono ?_); rintro e w' ⟨rfl, rfl⟩)
           | (go_at_call 54; (with_reducible refine (K5.out _).mono ?_); rintro e w' ⟨rfl, rfl⟩)
           | (go_at_call 54; (with_reducible refine (K6.out _).mono ?_); rintro e w' ⟨rfl, rfl⟩)
           | (go_at_call 53; refine (KO.out w1.drew).mono ?_; rintro e w' ⟨rfl, rfl⟩))
  go_wp2_with fail
  go_ret
  obtain ⟨os, hos⟩ := HG0.out
  exact ⟨by rw [HR.out]; rfl, 1, _, by rw [hos, alloc_eq_grow]; exact (grow_grow (w.drewN 1) os _)⟩
theorem rq_compare (a b : Rq) (w : World) :
    Calls Try.prog 43 #[.agg #[.int .i64 a.cl, .int .i64 a.tm, .int .i64 a.kd, .int .i64 a.ky, .int .i64 a.vl, .int .i64 a.sg], .agg #[.int .i64 b.cl, .int .i64 b.tm, .int .i64 b.kd, .int .i64 b.ky, .int .i64 b.vl, .int .i64 b.sg]] w fun e w' => e = .returned (.int .i64 (cmpR a b)) ∧ Below w.heap.size w w' :=
  (compare_grow a b w).mono fun _ _ ⟨he, q, os, hw⟩ => ⟨he, hw ▸ below_grow w q os⟩
end Go.Proofs.Ytbpefdnlldpjiaa
