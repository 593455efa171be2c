/- The walk of InstCerts: it returns true for any ints. -/
import Derived.Test.YtpdmflhbmimhgaaInstD
namespace Go.Proofs.Ytpdmflhbmimhgaa
open Go.RowKit
set_option linter.unusedSimpArgs false

/-- The votes of the first nodes, one seal behind the other. -/
def upV (n j : Nat) (s0 : Int) (b : List Rq) : List Vo := (List.range n).map fun (k : Nat) => if k < j then ⟨true, s0 + (k : Int), b⟩ else offV
theorem upV_len (n j : Nat) (s0 : Int) (b : List Rq) : (upV n j s0 b).length = n := by simp [upV]
theorem upV_at {n k : Nat} (j : Nat) (s0 : Int) (b : List Rq) (h : k < n) : (upV n j s0 b)[k]? = some (if k < j then ⟨true, s0 + (k : Int), b⟩ else offV) := by
  unfold upV
  rw [List.getElem?_map, List.getElem?_range h]
  rfl
theorem upV_zero (n : Nat) (s0 : Int) (b : List Rq) : upV n 0 s0 b = List.replicate n offV := by
  apply List.ext_getElem?
  intro k
  by_cases h : k < n
  · rw [upV_at _ _ _ h, if_neg (Nat.not_lt_zero k), List.getElem?_replicate, if_pos h]
  · rw [List.getElem?_eq_none (by rw [upV_len]; omega), List.getElem?_eq_none (by simp; omega)]
theorem upV_vote {n j : Nat} (h : j < n) (s0 : Int) (b : List Rq) : votS (upV n j s0 b) (j : Int) (s0 + (j : Int)) b = (true, upV n (j + 1) s0 b) := by
  have h1 := upV_at j s0 b h
  rw [if_neg (Nat.lt_irrefl j)] at h1
  rw [votS_new h1 rfl]
  congr 1
  apply List.ext_getElem?
  intro k
  by_cases hk : k < n
  · by_cases hjk : j = k
    · subst hjk
      rw [List.getElem?_set_self (by rw [upV_len]; exact h), upV_at _ _ _ h, if_pos (Nat.lt_succ_self j)]
    · rw [List.getElem?_set_ne hjk, upV_at _ _ _ hk, upV_at _ _ _ hk]
      by_cases h2 : k < j
      · rw [if_pos h2, if_pos (show k < j + 1 by omega)]
      · rw [if_neg h2, if_neg (show ¬ k < j + 1 by omega)]
  · rw [List.getElem?_eq_none (by rw [List.length_set, upV_len]; omega), List.getElem?_eq_none (by rw [upV_len]; omega)]
theorem forL_all {b : List Rq} : ∀ (L : List Vo) (k : Nat), (∀ x ∈ L, x.ca = true ∧ x.bt = b) → (forL k L b).length = L.length
  | [], _, _ => rfl
  | x :: L, k, h => by
    rw [forL_cons, if_pos (h x List.mem_cons_self), List.length_cons, forL_all L (k + 1) (fun y hy => h y (List.mem_cons_of_mem _ hy))]
    rfl
theorem forL_rises {b : List Rq} {N : Int} : ∀ (L : List Vo) (k : Nat) (last : Int) (q : Nat), last < (k : Int) → (k : Int) + (L.length : Int) ≤ N → risesF N last ((forL k L b).take q) = true
  | [], _, _, _, _, _ => by simp [forL, risesF]
  | x :: L, k, last, q, h1, h2 => by
    have hl : ((x :: L).length : Int) = (L.length : Int) + 1 := by simp
    rw [forL_cons]
    split
    · cases q with
      | zero => rfl
      | succ q =>
        have ih := forL_rises (b := b) (N := N) L (k + 1) (k : Int) q (by omega) (by omega)
        show (decide (last < (k : Int) ∧ (k : Int) < N) && risesF N (k : Int) ((forL (k + 1) L b).take q)) = true
        rw [ih, decide_eq_true ⟨h1, by omega⟩]
        rfl
    · exact forL_rises L (k + 1) last q (by omega) (by omega)
def cR (t : Nat) : Rq := ⟨0, 1 + (t : Int), 0, 0, 0, 0⟩
def cS (n t j : Nat) : Sx := ⟨some [cR t], upV n j (10 * (t : Int)) [cR t], List.replicate n offV⟩
theorem c_pre (n t : Nat) : (Sx.new n).pre [cR t] = cS n t 0 := by
  unfold cS
  rw [upV_zero]
  rfl
theorem c_vote {n j : Nat} (t : Nat) (h : j < n) : (cS n t j).vote 4 (j : Int) (10 * (t : Int) + (j : Int)) [cR t] = (true, cS n t (j + 1)) := by
  unfold Sx.vote cS
  rw [if_pos rfl]
  simp only [upV_vote h]
theorem c_prep {n q : Nat} (t : Nat) {f : Int} (f1 : 1 ≤ f) (f4 : f ≤ 4) (hq : (q : Int) = 2 * f + 1) (hn : (n : Int) = 3 * f + 1) : ∃ v, (cS n t n).prep q = some v ∧ v.length = q ∧ risingS v f = true := by
  have hall : ∀ x ∈ upV n n (10 * (t : Int)) [cR t], x.ca = true ∧ x.bt = [cR t] := by
    intro x hx
    obtain ⟨k, hk, rfl⟩ := List.mem_map.1 hx
    rw [if_pos (List.mem_range.1 hk)]
    exact ⟨rfl, rfl⟩
  have hlen := forL_all _ 0 hall
  rw [upV_len] at hlen
  have hd : decS (upV n n (10 * (t : Int)) [cR t]) [cR t] q = some ((forL 0 (upV n n (10 * (t : Int)) [cR t]) [cR t]).take q) := decS_some (by omega)
  have hl := (decS_is hd).2.2
  refine ⟨_, hd, hl, ?_⟩
  rw [rising_in f1 f4 (by rw [hl]; exact hq)]
  exact forL_rises _ 0 (-1) q (by omega) (by rw [upV_len, hn]; omega)
/-- Slot 2 is S; nothing is in the others. -/
def cX (f num vw : Int) (n : Nat) (S : Sx) (pr : Option Ct) : Ix := ⟨f, num, 4, vw, true, (List.replicate 16 ⟨Sx.new n, none, none⟩).set 1 ⟨S, pr, none⟩⟩
theorem cX_new (f num : Int) (n : Nat) : Ix.new f num 4 n = cX f num 0 n (Sx.new n) none := rfl
theorem cX_inst (f num vw v : Int) (n : Nat) (S : Sx) (pr : Option Ct) : ((cX f num vw n S pr).gone n v 16).inst [] 0 = cX f num v n (Sx.new n) pr := rfl
theorem cX_certs (f num vw : Int) (n : Nat) (S : Sx) (c : Ct) : certsL (cX f num vw n S (some c)).L = [c] := rfl
theorem cc_cells {w : World} {g l b d : Nat} {a1 a2 a3 a4 a5 c1 c2 c3 c4 c5 : Value} (h : Blk w g 31 #[a1, a2, a3, a4, a5]) (hr : w.ownsRow b 31 5 (.slice (some ⟨l, 0, none⟩) 1 d) 1 [c1, c2, c3, c4, c5]) :
    w.cell? ⟨g, 0, none⟩ = some a1 ∧ w.cell? ⟨g, 1, none⟩ = some a2 ∧ w.cell? ⟨g, 2, none⟩ = some a3 ∧ w.cell? ⟨g, 3, none⟩ = some a4 ∧ w.cell? ⟨g, 4, none⟩ = some a5 ∧
    w.cell? ⟨l, 0, none⟩ = some c1 ∧ w.cell? ⟨l, 1, none⟩ = some c2 ∧ w.cell? ⟨l, 2, none⟩ = some c3 ∧ w.cell? ⟨l, 3, none⟩ = some c4 ∧ w.cell? ⟨l, 4, none⟩ = some c5 := by
  have hh := has_rows hr
  have hc : ∀ j u, [c1, c2, c3, c4, c5][j]? = some u → w.cell? ⟨l, j, none⟩ = some u := by
    intro j u hj
    obtain ⟨ad, e, _, hcell⟩ := hh j u hj
    injection e with e
    subst e
    rwa [addr_at] at hcell
  exact ⟨h.cell 0, h.cell 1, h.cell 2, h.cell 3, h.cell 4, hc 0 _ rfl, hc 1 _ rfl, hc 2 _ rfl, hc 3 _ rfl, hc 4 _ rfl⟩
set_option maxRecDepth 100000 in
set_option maxHeartbeats 16000000 in
theorem instCerts_walk (a0 a1 : Int) (A : Option Addr) (c : Nat) (zs : List Int) (w : World) (w0 : (Lit.int .i64 a0).wf = true) (w1 : (Lit.int .i64 a1).wf = true) (w2 : IsList .i64 w A zs c) :
    Calls Try.prog 5 #[.int .i64 a0, .int .i64 a1, .slice A zs.length c] w fun e w' => e = .returned (.bool true) ∧ Below w.heap.size w w' := by
  obtain ⟨b0, b1⟩ := wf_i64 w0
  obtain ⟨b2, b3⟩ := wf_i64 w1
  have HW4 := Lib.hid (fun w => within_any a0 4 (by omega) (by omega) b0 b1 w)
  obtain ⟨p, hp⟩ : ∃ p : Nat, a0 % 4 = p := ⟨(a0 % 4).toNat, by omega⟩
  rw [hp] at HW4
  have q0 : (p : Int) < 4 := by omega
  have HWn := Lib.hid (fun w => within_any a1 (1 + (p : Int) + 1) (by omega) (by omega) b2 b3 w)
  have n0 := Int.emod_nonneg a1 (show (1 + (p : Int) + 1) ≠ 0 by omega)
  have n1 := Int.emod_lt_of_pos a1 (show 0 < (1 + (p : Int) + 1) by omega)
  obtain ⟨nm, hnm⟩ : ∃ y, a1 % (1 + (p : Int) + 1) = y := ⟨_, rfl⟩
  rw [hnm] at HWn n0 n1
  obtain ⟨q, hq⟩ : ∃ q : Nat, (q : Int) = 2 * (1 + (p : Int)) + 1 := ⟨2 * p + 3, by omega⟩
  obtain ⟨n, hn⟩ : ∃ n : Nat, (n : Int) = 3 * (1 + (p : Int)) + 1 := ⟨3 * p + 4, by omega⟩
  have HNo := Lib.hid (fun (w : World) => (show Calls Try.prog 22 #[.int .i64 (1 + p)] w fun e w' => e = .returned (.int .i64 (n : Int)) ∧ w = w' from by
    have := rnodes_any (1 + p) w
    rwa [nodesS_in (by omega) (by omega), ← hn] at this))
  have HQn := Lib.hid (show 0 < q ∧ q ≤ 9 ∧ n ≤ 13 from ⟨by omega, by omega, by omega⟩)
  have HPrep := Lib.hid (fun t => c_prep (n := n) (q := q) t (f := 1 + (p : Int)) (by omega) (by omega) hq hn)
  have HNew := Lib.hid (fun w => r_new (f := 1 + (p : Int)) (num := nm) (ah := 4) (n := n) (by omega) (by omega) (by omega) (by omega) (by omega) (by omega) hn w w (Below.refl _ _))
  rw [cX_new] at HNew
  have HQq := Lib.hid hq
  have HNn := Lib.hid hn
  have HL := Lib.hid w2
  obtain ⟨m0, hm0⟩ : ∃ m, zs.length = m := ⟨_, rfl⟩
  have HN := Lib.hid hm0
  have HMx := Lib.hid (show m0 ≤ maxLen by rw [← hm0]; exact Nat.le_trans HL.out.le HL.out.most)
  simp only [hm0]
  clear w0 w1 w2 b0 b1 b2 b3 hp hnm n0 n1 hq hn hm0
  go_enter Try.func5, Try.ntmps5
  go_wp2_with fail
  refine (HW4.out _).mono ?_
  rintro e wa ⟨rfl, rfl⟩
  go_wp2_with fail
  refine (HWn.out _).mono ?_
  rintro e wa ⟨rfl, rfl⟩
  go_wp2_with fail
  refine (HNew.out _).mono ?_
  rintro e w1 ⟨ib, rfl, hR, -⟩
  have HR1 := Lib.hid hR
  clear hR HNew
  go_wp2_with fail
  go_loopw [9, 10] (fun x y wr => ∃ (t : Nat) (vw : Int) (S : Sx) (pr : Option Ct), y = .int .i64 t ∧ x = .int .i64 vw ∧ t ≤ m0 + 1 ∧ t ≤ 20 ∧ Hid (Ri w ib (cX (1 + (p : Int)) nm vw n S pr) wr) ∧ Hid ((t = 0 → S = Sx.new n ∧ pr = none) ∧ ∀ c, pr = some c → c.vw ≤ vw)) (fun _ y _ => m0 + 1 - (intOf y).toNat)
  case atStart => exact ⟨0, 0, Sx.new n, none, rfl, rfl, Nat.zero_le _, Nat.zero_le _, HR1, ⟨fun _ => ⟨rfl, rfl⟩, fun c h => by cases h⟩⟩
  case round =>
    clear HR1
    obtain ⟨t, vw, S, pr, rfl, rfl, ht, ht20, HR, HPr⟩ := hrel
    by_cases hlt : t ≤ m0 ∧ t < 20
    · obtain ⟨hlt1, hlt2⟩ := hlt
      have hlti : (t : Int) ≤ (m0 : Int) := by omega
      have hlti2 : (t : Int) < 20 := by omega
      by_cases ht0 : t = 0
      · have hgt : ¬ (0 : Int) < (t : Int) := by omega
        obtain ⟨e1, e2⟩ := HPr.out.1 ht0
        subst e1 e2
        have HPz := Lib.hid (show ∀ c : Ct, (none : Option Ct) = some c → c.vw ≠ vw from fun c h => by cases h)
        clear ht0 HPr
        go_wp2_with fail
        have HB1 := Lib.hid (show Blk (wr.alloc (.cells #[.int .i64 0, .int .i64 (1 + (t : Int)), .int .i64 0, .int .i64 0, .int .i64 0, .int .i64 0] 41)) wr.heap.size 41 (rqCells (cR t)) from Blk.new wr _ _)
        have HR1 := Lib.hid (HR.out.below (wz := wr.alloc (.cells #[.int .i64 0, .int .i64 (1 + (t : Int)), .int .i64 0, .int .i64 0, .int .i64 0, .int .i64 0] 41)) ((Below.refl _ _).alloc (Nat.le_refl _) _))
        obtain ⟨g2, hg2⟩ : ∃ y, wr.heap.size = y := ⟨_, rfl⟩
        rw [hg2] at HB1 ⊢
        have HP := Lib.hid (r_pre (k := 1) (p := ⟨Sx.new n, none, none⟩) (c := 1) HR1.out rfl rfl (by show ((1 : Nat) : Int) + 1 ≤ ((_ : Nat) : Int) + 4; omega) (has_one (cR t) HB1.out) (n := 1) rfl (by omega))
        rw [c_pre] at HP
        clear hg2 HR
        refine HP.out.mono ?_
        rintro e w5 ⟨rfl, hr, hkp⟩
        have HR5 := Lib.hid (show Ri w ib (cX (1 + (p : Int)) nm vw n (cS n t 0) none) w5 from hr)
        have HB5 := Lib.hid (hkp.blk HB1.out (by decide) (by decide) (by decide))
        clear hr hkp HP HR1 HB1
        go_wp2_with fail
        go_loopw [13] (fun y wr => ∃ j : Nat, y = .int .i64 j ∧ j ≤ n ∧ Hid (Ri w ib (cX (1 + (p : Int)) nm vw n (cS n t j) none) wr) ∧ Hid (Blk wr g2 41 (rqCells (cR t)))) (fun y _ => n - (intOf y).toNat)
        case atStart => exact ⟨0, rfl, Nat.zero_le _, HR5, HB5⟩
        case round =>
          clear HR5 HB5
          obtain ⟨j, rfl, hj, HR, HB⟩ := hrel
          by_cases hjn : j < n
          · have hjni : (j : Int) < (n : Int) := by omega
            have hj13 : (j : Int) < 13 := by have := HQn.out.2.2; omega
            have HV := Lib.hid (r_vote (k := 1) (p := ⟨cS n t j, none, none⟩) (c := 1) HR.out rfl rfl 4 j (10 * (t : Int) + (j : Int)) (has_one (cR t) HB.out) (n := 1) rfl (by omega))
            simp only [c_vote t hjn] at HV
            have x1 : IntKind.i64.wrap (10 * (t : Int)) = 10 * (t : Int) := by rw [IntKind.wrap_i64]; omega
            have x2 : IntKind.i64.wrap (10 * (t : Int) + (j : Int)) = 10 * (t : Int) + (j : Int) := by rw [IntKind.wrap_i64]; omega
            go_wp2_with fail
            refine (HNo.out _).mono ?_
            rintro e wq ⟨rfl, rfl⟩
            go_wp2_with fail
            refine HV.out.mono ?_
            rintro e w6 ⟨rfl, hr, hkp⟩
            have HR6 := Lib.hid (show Ri w ib (cX (1 + (p : Int)) nm vw n (cS n t (j + 1)) none) w6 from hr)
            have HB6 := Lib.hid (hkp.blk HB.out (by decide) (by decide) (by decide))
            clear hr hkp HV HR HB
            go_wp2_with fail
            go_roundw
            case rel => exact ⟨_, _, _, _, _, _, _, _, _, _, _, _, _, _, _, ⟨j + 1, by go_num, by omega, HR6, HB6⟩, rfl⟩
            case measure => simp [intOf]; omega
          · obtain rfl : j = n := by omega
            obtain ⟨pv, hpv, hpl, hri⟩ := HPrep.out t
            have HPl := Lib.hid hpl
            have HRi := Lib.hid hri
            have HPy := Lib.hid (r_prepared (k := 1) (p := ⟨cS j t j, none, none⟩) HR.out rfl rfl HPz.out HQq.out hpv rfl)
            rw [show (cX (1 + (p : Int)) nm vw j (cS j t j) none).vw = vw from rfl, show (cX (1 + (p : Int)) nm vw j (cS j t j) none).num = nm from rfl, show [cR t].length = 1 from rfl, hpl] at HPy
            have hjn2 : ¬ (j : Int) < (j : Int) := by omega
            clear hjn hpv hpl hri
            go_wp2_with fail
            refine (HNo.out _).mono ?_
            rintro e wq ⟨rfl, rfl⟩
            go_wp2_with fail
            refine HPy.out.mono ?_
            rintro e w6 ⟨A5, d5, B5, e5, rfl, hn6, hr, hkp⟩
            have hal : Below w6.heap.size w6 (w6.alloc (.cells #[.int .i64 vw, .int .i64 nm, .int .i64 2, .slice A5 1 d5, .slice B5 q e5] 31)) := (Below.refl _ _).alloc (Nat.le_refl _) _
            have HR6 := Lib.hid (show Ri w ib (cX (1 + (p : Int)) nm vw j (cS j t j) (some ⟨vw, nm, 2, [cR t], pv⟩)) (w6.alloc (.cells #[.int .i64 vw, .int .i64 nm, .int .i64 2, .slice A5 1 d5, .slice B5 q e5] 31)) from Ri.below hr hal)
            have HB6 := Lib.hid ((hkp.blk HB.out (by decide) (by decide) (by decide)).alloc (.cells #[.int .i64 vw, .int .i64 nm, .int .i64 2, .slice A5 1 d5, .slice B5 q e5] 31))
            have HK6 := Lib.hid (Blk.new w6 31 #[.int .i64 vw, .int .i64 nm, .int .i64 2, .slice A5 1 d5, .slice B5 q e5])
            have HN6 := Lib.hid (hn6.below hal)
            obtain ⟨g5, hg5⟩ : ∃ y, w6.heap.size = y := ⟨_, rfl⟩
            rw [hg5] at HK6
            have HG5 := Lib.hid hg5
            clear hn6 hr hkp hal HPy HR HB hg5
            have HCt := Lib.hid (r_certs HR6.out)
            rw [cX_certs] at HCt
            go_wp2_with fail
            rw [HG5.out]
            refine HCt.out.mono ?_
            rintro e w7 ⟨u, rfl, ⟨M, hM1, hM2, hM3⟩, hb7⟩
            obtain ⟨x, rfl⟩ : ∃ x, M = [x] := by
              have := congrArg List.length hM1
              exact List.length_eq_one_iff.1 (by simpa using this)
            obtain ⟨xc, X1, f1, X2, f2⟩ := x
            obtain rfl : xc = ⟨vw, nm, 2, [cR t], pv⟩ := by simpa using hM1
            have hX := hM3 _ List.mem_cons_self
            change w7.ownsRow _ _ _ _ 1 [.int .i64 vw, .int .i64 nm, .int .i64 2, .slice X1 [cR t].length f1, .slice X2 pv.length f2] at hM2
            rw [show [cR t].length = 1 from rfl, HPl.out] at hM2
            obtain ⟨gl, d8, rfl, -, -⟩ := hM2.form (by omega)
            have HR7 := Lib.hid (HR6.out.below hb7)
            have HB7 := Lib.hid (HB6.out.below hb7 HB6.out.lt)
            have HK7 := Lib.hid (HK6.out.below hb7 HK6.out.lt)
            have HN7 := Lib.hid (HN6.out.below hb7)
            have HM2 := Lib.hid hM2
            have HX := Lib.hid hX
            clear hM1 hM2 hM3 hX hb7 HCt HR6 HB6 HK6 HN6 HG5
            have hq1 := cc_cells HK7.out.drew (below_own HM2.out (show Below w7.heap.size w7 w7.drew from ⟨rfl, rfl, rfl, Nat.le_refl _, fun _ _ => rfl⟩) (Nat.le_refl _))
            have hqD := fun m1 => cc_cells (HK7.out.drew.drewN m1) (below_own HM2.out (show Below w7.heap.size w7 (w7.drew.drewN m1) from ⟨rfl, rfl, rfl, Nat.le_refl _, fun _ _ => rfl⟩) (Nat.le_refl _))
            have hqE := fun m1 m2 => cc_cells ((HK7.out.drew.drewN m1).drewN m2) (below_own HM2.out (show Below w7.heap.size w7 ((w7.drew.drewN m1).drewN m2) from ⟨rfl, rfl, rfl, Nat.le_refl _, fun _ _ => rfl⟩) (Nat.le_refl _))
            have hqF := fun (m1 m2 : Nat) (wz : World) (hb : Below w7.heap.size (w7.drewN (1 + m1 + m2)) wz) => cc_cells ((HK7.out.drewN (1 + m1 + m2)).below hb HK7.out.lt) (below_own (below_own HM2.out (show Below w7.heap.size w7 (w7.drewN (1 + m1 + m2)) from ⟨rfl, rfl, rfl, Nat.le_refl _, fun _ _ => rfl⟩) (Nat.le_refl _)) hb (Nat.le_refl _))
            have hb5 := HN7.out.bt
            have hv5 := HN7.out.vs
            have HS1 := Lib.hid (same_reqs_is (A := A5) (A' := some ⟨g2, 0, none⟩) (c := d5) (c' := 1) (la := 1) (lb := 1) (zs := [cR t]) (ys := [cR t]) (r := true) rfl rfl (by omega) (sameL_self' _) w7.drew (has_rows (below_own hb5 (show Below w7.heap.size w7 w7.drew from ⟨rfl, rfl, rfl, Nat.le_refl _, fun _ _ => rfl⟩) (Nat.le_refl _))) (has_one (cR t) HB7.out.drew))
            have HS2 := Lib.hid (fun m1 => rrising_any (c := e5) (f := 1 + (p : Int)) ((has_rows hv5).drewN (1 + m1)) HPl.out (by have := HQn.out.2.1; unfold maxLen; omega))
            rw [HRi.out] at HS2
            have HS3 := Lib.hid (fun m1 m2 => same_cert ⟨⟨vw, nm, 2, [cR t], pv⟩, X1, f1, X2, f2⟩ ⟨⟨vw, nm, 2, [cR t], pv⟩, A5, d5, B5, e5⟩ w7.heap.size (w7.drewN (1 + m1 + m2)) ⟨(has_rows HX.out.bt).drewN _, (has_rows HX.out.vs).drewN _⟩ ⟨(has_rows hb5).drewN _, (has_rows hv5).drewN _⟩ (Nat.le_refl _) ⟨by show (1 : Nat) ≤ 9223372036854775806; omega, by show pv.length ≤ 9223372036854775806; rw [HPl.out]; have := HQn.out.2.1; omega⟩)
            simp only [HPl.out, show [cR t].length = 1 from rfl, decide_true] at HS3
            clear hb5 hv5
            go_wp2_with fail
            refine wp_region_held_drew (S := fun w' => w'.cell? ⟨g5, 0, none⟩ = some (.int .i64 vw) ∧ w'.cell? ⟨g5, 1, none⟩ = some (.int .i64 nm) ∧ w'.cell? ⟨g5, 2, none⟩ = some (.int .i64 2) ∧ w'.cell? ⟨g5, 3, none⟩ = some (.slice A5 1 d5) ∧ w'.cell? ⟨g5, 4, none⟩ = some (.slice B5 q e5) ∧ w'.cell? ⟨gl, 0, none⟩ = some (.int .i64 vw) ∧ w'.cell? ⟨gl, 1, none⟩ = some (.int .i64 nm) ∧ w'.cell? ⟨gl, 2, none⟩ = some (.int .i64 2) ∧ w'.cell? ⟨gl, 3, none⟩ = some (.slice X1 1 f1) ∧ w'.cell? ⟨gl, 4, none⟩ = some (.slice X2 q f2)) (by kernel_rfl) (hq1) (fun hHeld => ?_)
            refine wpAnyH_take (i := 0) (v := ?_) rfl (by kernel_rfl) (by kernel_rfl) (by kernel_rfl) (fun _ _ _ h => h) (Or.inl ⟨by rfl, ?_⟩) (by assumption) ?_
            rotate_left
            · (intro w hSw; (try dsimp only at hSw); first | (go_simp; done) | (go_simp; with_reducible rfl))
            try simp only [Act.put, List.getElem_toArray, List.getElem_cons_zero, List.getElem_cons_succ, List.setIfInBounds_toArray, List.set_cons_zero, List.set_cons_succ]
            refine wpAnyH_take (i := 1) (v := ?_) rfl (by kernel_rfl) (by kernel_rfl) (by kernel_rfl) (fun _ _ _ h => h) (Or.inl ⟨by rfl, ?_⟩) (by assumption) ?_
            rotate_left
            · (intro w hSw; (try dsimp only at hSw); first | (go_simp; done) | (go_simp; with_reducible rfl))
            try simp only [Act.put, List.getElem_toArray, List.getElem_cons_zero, List.getElem_cons_succ, List.setIfInBounds_toArray, List.set_cons_zero, List.set_cons_succ]
            refine wpAnyH_take (i := 2) (v := ?_) rfl (by kernel_rfl) (by kernel_rfl) (by kernel_rfl) (fun _ _ _ h => h) (Or.inl ⟨by rfl, ?_⟩) (by assumption) ?_
            rotate_left
            · (intro w hSw; (try dsimp only at hSw); first | (go_simp; done) | (go_simp; with_reducible rfl))
            try simp only [Act.put, List.getElem_toArray, List.getElem_cons_zero, List.getElem_cons_succ, List.setIfInBounds_toArray, List.set_cons_zero, List.set_cons_succ]
            refine wpAnyH_take (i := 3) (v := ?_) rfl (by kernel_rfl) (by kernel_rfl) (by kernel_rfl) (fun _ _ _ h => h) (Or.inl ⟨by rfl, ?_⟩) (by assumption) ?_
            rotate_left
            · (intro w hSw; (try dsimp only at hSw); first | (go_simp; done) | (go_simp; with_reducible rfl))
            try simp only [Act.put, List.getElem_toArray, List.getElem_cons_zero, List.getElem_cons_succ, List.setIfInBounds_toArray, List.set_cons_zero, List.set_cons_succ]
            refine wpAnyH_take (i := 4) (v := ?_) rfl (by kernel_rfl) (by kernel_rfl) (by kernel_rfl) (fun _ _ _ h => h) (Or.inl ⟨by rfl, ?_⟩) (by assumption) ?_
            rotate_left
            · (intro w hSw; (try dsimp only at hSw); first | (go_simp; done) | (go_simp; with_reducible rfl))
            try simp only [Act.put, List.getElem_toArray, List.getElem_cons_zero, List.getElem_cons_succ, List.setIfInBounds_toArray, List.set_cons_zero, List.set_cons_succ]
            refine wpAnyH_take (i := 5) (v := ?_) rfl (by kernel_rfl) (by kernel_rfl) (by kernel_rfl) (fun _ _ _ h => h) (Or.inl ⟨by rfl, ?_⟩) (by assumption) ?_
            rotate_left
            · (intro w hSw; (try dsimp only at hSw); first | (go_simp; done) | (go_simp; with_reducible rfl))
            try simp only [Act.put, List.getElem_toArray, List.getElem_cons_zero, List.getElem_cons_succ, List.setIfInBounds_toArray, List.set_cons_zero, List.set_cons_succ]
            refine wpAnyH_take (i := 6) (v := ?_) rfl (by kernel_rfl) (by kernel_rfl) (by kernel_rfl) (fun _ _ _ h => h) (Or.inl ⟨by rfl, ?_⟩) (by assumption) ?_
            rotate_left
            · (intro w hSw; (try dsimp only at hSw); first | (go_simp; done) | (go_simp; with_reducible rfl))
            try simp only [Act.put, List.getElem_toArray, List.getElem_cons_zero, List.getElem_cons_succ, List.setIfInBounds_toArray, List.set_cons_zero, List.set_cons_succ]
            refine wpAnyH_take (i := 7) (v := ?_) rfl (by kernel_rfl) (by kernel_rfl) (by kernel_rfl) (fun _ _ _ h => h) (Or.inl ⟨by rfl, ?_⟩) (by assumption) ?_
            rotate_left
            · (intro w hSw; (try dsimp only at hSw); first | (go_simp; done) | (go_simp; with_reducible rfl))
            try simp only [Act.put, List.getElem_toArray, List.getElem_cons_zero, List.getElem_cons_succ, List.setIfInBounds_toArray, List.set_cons_zero, List.set_cons_succ]
            refine wpAnyH_take (i := 8) (v := ?_) rfl (by kernel_rfl) (by kernel_rfl) (by kernel_rfl) (fun _ _ _ h => h) (Or.inl ⟨by rfl, ?_⟩) (by assumption) ?_
            rotate_left
            · (intro w hSw; (try dsimp only at hSw); first | (go_simp; done) | (go_simp; with_reducible rfl))
            try simp only [Act.put, List.getElem_toArray, List.getElem_cons_zero, List.getElem_cons_succ, List.setIfInBounds_toArray, List.set_cons_zero, List.set_cons_succ]
            refine wpAnyH_take (i := 9) (v := ?_) rfl (by kernel_rfl) (by kernel_rfl) (by kernel_rfl) (fun _ _ _ h => h) (Or.inl ⟨by rfl, ?_⟩) (by assumption) ?_
            rotate_left
            · (intro w hSw; (try dsimp only at hSw); first | (go_simp; done) | (go_simp; with_reducible rfl))
            try simp only [Act.put, List.getElem_toArray, List.getElem_cons_zero, List.getElem_cons_succ, List.setIfInBounds_toArray, List.set_cons_zero, List.set_cons_succ]
            refine wpAnyH_take (i := 10) (v := ?_) rfl (by kernel_rfl) (by kernel_rfl) (by kernel_rfl) (fun _ _ _ h => h) (Or.inl ⟨by rfl, ?_⟩) (by assumption) ?_
            rotate_left
            · (intro w hSw; (try dsimp only at hSw); first | (go_simp; done) | (go_simp; with_reducible rfl))
            try simp only [Act.put, List.getElem_toArray, List.getElem_cons_zero, List.getElem_cons_succ, List.setIfInBounds_toArray, List.set_cons_zero, List.set_cons_succ]
            refine wpAnyH_take (i := 11) (v := ?_) rfl (by kernel_rfl) (by kernel_rfl) (by kernel_rfl) (fun _ _ _ h => h) (Or.inl ⟨by rfl, ?_⟩) (by assumption) ?_
            rotate_left
            · (intro w hSw; (try dsimp only at hSw); first | (go_simp; done) | (go_simp; with_reducible rfl))
            try simp only [Act.put, List.getElem_toArray, List.getElem_cons_zero, List.getElem_cons_succ, List.setIfInBounds_toArray, List.set_cons_zero, List.set_cons_succ]
            refine wpAnyH_take (i := 12) (v := ?_) rfl (by kernel_rfl) (by kernel_rfl) (by kernel_rfl) (fun _ _ _ h => h) (Or.inl ⟨by rfl, ?_⟩) (by assumption) ?_
            rotate_left
            · (intro w hSw; (try dsimp only at hSw); first | (go_simp; done) | (go_simp; with_reducible rfl))
            try simp only [Act.put, List.getElem_toArray, List.getElem_cons_zero, List.getElem_cons_succ, List.setIfInBounds_toArray, List.set_cons_zero, List.set_cons_succ]
            refine wpAnyH_take (i := 13) (v := ?_) rfl (by kernel_rfl) (by kernel_rfl) (by kernel_rfl) (fun _ _ _ h => h) (Or.inl ⟨by rfl, ?_⟩) (by assumption) ?_
            rotate_left
            · (intro w hSw; (try dsimp only at hSw); first | (go_simp; done) | (go_simp; with_reducible rfl))
            try simp only [Act.put, List.getElem_toArray, List.getElem_cons_zero, List.getElem_cons_succ, List.setIfInBounds_toArray, List.set_cons_zero, List.set_cons_succ]
            refine wpAnyH_take (i := 14) (v := ?_) rfl (by kernel_rfl) (by kernel_rfl) (by kernel_rfl) (fun _ _ _ h => h) (Or.inl ⟨by rfl, ?_⟩) (by assumption) ?_
            rotate_left
            · (intro w hSw; (try dsimp only at hSw); first | (go_simp; done) | (go_simp; with_reducible rfl))
            try simp only [Act.put, List.getElem_toArray, List.getElem_cons_zero, List.getElem_cons_succ, List.setIfInBounds_toArray, List.set_cons_zero, List.set_cons_succ]
            refine wpAnyH_take (i := 15) (v := ?_) rfl (by kernel_rfl) (by kernel_rfl) (by kernel_rfl) (fun _ _ _ h => h) (Or.inl ⟨by rfl, ?_⟩) (by assumption) ?_
            rotate_left
            · (intro w hSw; (try dsimp only at hSw); first | (go_simp; done) | (go_simp; with_reducible rfl))
            try simp only [Act.put, List.getElem_toArray, List.getElem_cons_zero, List.getElem_cons_succ, List.setIfInBounds_toArray, List.set_cons_zero, List.set_cons_succ]
            refine wpAnyH_take (i := 16) (v := ?_) rfl (by kernel_rfl) (by kernel_rfl) (by kernel_rfl) (fun _ _ _ h => h) (Or.inl ⟨by rfl, ?_⟩) (by assumption) ?_
            rotate_left
            · (intro w hSw; (try dsimp only at hSw); first | (go_simp; done) | (go_simp; with_reducible rfl))
            try simp only [Act.put, List.getElem_toArray, List.getElem_cons_zero, List.getElem_cons_succ, List.setIfInBounds_toArray, List.set_cons_zero, List.set_cons_succ]
            refine wpAnyH_take (i := 17) (v := ?_) rfl (by kernel_rfl) (by kernel_rfl) (by kernel_rfl) (fun _ _ _ h => h) (Or.inl ⟨by rfl, ?_⟩) (by assumption) ?_
            rotate_left
            · (intro w hSw; (try dsimp only at hSw); first | (go_simp; done) | (go_simp; with_reducible rfl))
            try simp only [Act.put, List.getElem_toArray, List.getElem_cons_zero, List.getElem_cons_succ, List.setIfInBounds_toArray, List.set_cons_zero, List.set_cons_succ]
            refine wpAnyH_take (i := 18) (v := ?_) rfl (by kernel_rfl) (by kernel_rfl) (by kernel_rfl) (fun _ _ _ h => h) (Or.inl ⟨by rfl, ?_⟩) (by assumption) ?_
            rotate_left
            · (intro w hSw; (try dsimp only at hSw); first | (go_simp; done) | (go_simp; with_reducible rfl))
            try simp only [Act.put, List.getElem_toArray, List.getElem_cons_zero, List.getElem_cons_succ, List.setIfInBounds_toArray, List.set_cons_zero, List.set_cons_succ]
            refine wpAnyH_take (i := 19) (v := ?_) rfl (by kernel_rfl) (by kernel_rfl) (by kernel_rfl) (fun _ _ _ h => h) (Or.inl ⟨by rfl, ?_⟩) (by assumption) ?_
            rotate_left
            · (intro w hSw; (try dsimp only at hSw); first | (go_simp; done) | (go_simp; with_reducible rfl))
            try simp only [Act.put, List.getElem_toArray, List.getElem_cons_zero, List.getElem_cons_succ, List.setIfInBounds_toArray, List.set_cons_zero, List.set_cons_succ]
            refine wpAnyH_take (i := 20) (v := ?_) rfl (by kernel_rfl) (by kernel_rfl) (by kernel_rfl) (fun _ _ _ h => h) (Or.inl ⟨by rfl, ?_⟩) (by assumption) ?_
            rotate_left
            · (intro w hSw; (try dsimp only at hSw); first | (go_simp; done) | (go_simp; with_reducible rfl))
            try simp only [Act.put, List.getElem_toArray, List.getElem_cons_zero, List.getElem_cons_succ, List.setIfInBounds_toArray, List.set_cons_zero, List.set_cons_succ]
            refine wpAnyH_take (i := 21) (v := ?_) rfl (by kernel_rfl) (by kernel_rfl) (by kernel_rfl) (fun _ _ _ h => h) (Or.inl ⟨by rfl, ?_⟩) (by assumption) ?_
            rotate_left
            · (intro w hSw; (try dsimp only at hSw); first | (go_simp; done) | (go_simp; with_reducible rfl))
            try simp only [Act.put, List.getElem_toArray, List.getElem_cons_zero, List.getElem_cons_succ, List.setIfInBounds_toArray, List.set_cons_zero, List.set_cons_succ]
            refine wpAnyH_take (i := 22) (v := ?_) rfl (by kernel_rfl) (by kernel_rfl) (by kernel_rfl) (fun _ _ _ h => h) (Or.inl ⟨by rfl, ?_⟩) (by assumption) ?_
            rotate_left
            · (intro w hSw; (try dsimp only at hSw); first | (go_simp; done) | (go_simp; with_reducible rfl))
            try simp only [Act.put, List.getElem_toArray, List.getElem_cons_zero, List.getElem_cons_succ, List.setIfInBounds_toArray, List.set_cons_zero, List.set_cons_succ]
            refine wpAnyH_ready (rs := [23]) (by kernel_rfl) (by simp) ?_
            refine AllReadyH.cons rfl (fun K hK => ?_) AllReadyH.nil
            go_simp
            go_at_call 19
            with_reducible refine HS1.out.mono ?_
            rintro e wx ⟨rfl, m1, rfl⟩
            refine hK.out _ _ (hqD m1) (fun hHeld => ?_)
            clear hK K
            try simp only [Act.put, List.getElem_toArray, List.getElem_cons_zero, List.getElem_cons_succ, List.setIfInBounds_toArray, List.set_cons_zero, List.set_cons_succ]
            refine wpAnyH_take (i := 24) (v := ?_) rfl (by kernel_rfl) (by kernel_rfl) (by kernel_rfl) (fun _ _ _ h => h) (Or.inl ⟨by rfl, ?_⟩) (by assumption) ?_
            rotate_left
            · (intro w hSw; (try dsimp only at hSw); first | (go_simp; done) | (go_simp; with_reducible rfl))
            try simp only [Act.put, List.getElem_toArray, List.getElem_cons_zero, List.getElem_cons_succ, List.setIfInBounds_toArray, List.set_cons_zero, List.set_cons_succ]
            refine wpAnyH_take (i := 25) (v := ?_) rfl (by kernel_rfl) (by kernel_rfl) (by kernel_rfl) (fun _ _ _ h => h) (Or.inl ⟨by rfl, ?_⟩) (by assumption) ?_
            rotate_left
            · (intro w hSw; (try dsimp only at hSw); first | (go_simp; done) | (go_simp; with_reducible rfl))
            try simp only [Act.put, List.getElem_toArray, List.getElem_cons_zero, List.getElem_cons_succ, List.setIfInBounds_toArray, List.set_cons_zero, List.set_cons_succ]
            refine wpAnyH_take (i := 26) (v := ?_) rfl (by kernel_rfl) (by kernel_rfl) (by kernel_rfl) (fun _ _ _ h => h) (Or.inl ⟨by rfl, ?_⟩) (by assumption) ?_
            rotate_left
            · (intro w hSw; (try dsimp only at hSw); first | (go_simp; done) | (go_simp; with_reducible rfl))
            try simp only [Act.put, List.getElem_toArray, List.getElem_cons_zero, List.getElem_cons_succ, List.setIfInBounds_toArray, List.set_cons_zero, List.set_cons_succ]
            refine wpAnyH_take (i := 27) (v := ?_) rfl (by kernel_rfl) (by kernel_rfl) (by kernel_rfl) (fun _ _ _ h => h) (Or.inl ⟨by rfl, ?_⟩) (by assumption) ?_
            rotate_left
            · (intro w hSw; (try dsimp only at hSw); first | (go_simp; done) | (go_simp; with_reducible rfl))
            try simp only [Act.put, List.getElem_toArray, List.getElem_cons_zero, List.getElem_cons_succ, List.setIfInBounds_toArray, List.set_cons_zero, List.set_cons_succ]
            refine wpAnyH_take (i := 28) (v := ?_) rfl (by kernel_rfl) (by kernel_rfl) (by kernel_rfl) (fun _ _ _ h => h) (Or.inl ⟨by rfl, ?_⟩) (by assumption) ?_
            rotate_left
            · (intro w hSw; (try dsimp only at hSw); first | (go_simp; done) | (go_simp; with_reducible rfl))
            try simp only [Act.put, List.getElem_toArray, List.getElem_cons_zero, List.getElem_cons_succ, List.setIfInBounds_toArray, List.set_cons_zero, List.set_cons_succ]
            refine wpAnyH_take (i := 29) (v := ?_) rfl (by kernel_rfl) (by kernel_rfl) (by kernel_rfl) (fun _ _ _ h => h) (Or.inl ⟨by rfl, ?_⟩) (by assumption) ?_
            rotate_left
            · (intro w hSw; (try dsimp only at hSw); first | (go_simp; done) | (go_simp; with_reducible rfl))
            try simp only [Act.put, List.getElem_toArray, List.getElem_cons_zero, List.getElem_cons_succ, List.setIfInBounds_toArray, List.set_cons_zero, List.set_cons_succ]
            refine wpAnyH_ready (rs := [30]) (by kernel_rfl) (by simp) ?_
            refine AllReadyH.cons rfl (fun K hK => ?_) AllReadyH.nil
            go_simp
            go_at_call 25
            with_reducible refine (HS2.out m1).mono ?_
            rintro e wy ⟨rfl, m2, rfl⟩
            refine hK.out _ _ (hqE m1 m2) (fun hHeld => ?_)
            clear hK K
            try simp only [Act.put, List.getElem_toArray, List.getElem_cons_zero, List.getElem_cons_succ, List.setIfInBounds_toArray, List.set_cons_zero, List.set_cons_succ]
            refine wpAnyH_take (i := 31) (v := ?_) rfl (by kernel_rfl) (by kernel_rfl) (by kernel_rfl) (fun _ _ _ h => h) (Or.inl ⟨by rfl, ?_⟩) (by assumption) ?_
            rotate_left
            · (intro w hSw; (try dsimp only at hSw); first | (go_simp; done) | (go_simp; with_reducible rfl))
            try simp only [Act.put, List.getElem_toArray, List.getElem_cons_zero, List.getElem_cons_succ, List.setIfInBounds_toArray, List.set_cons_zero, List.set_cons_succ]
            refine wpAnyH_take (i := 32) (v := ?_) rfl (by kernel_rfl) (by kernel_rfl) (by kernel_rfl) (fun _ _ _ h => h) (Or.inl ⟨by rfl, ?_⟩) (by assumption) ?_
            rotate_left
            · (intro w hSw; (try dsimp only at hSw); first | (go_simp; done) | (go_simp; with_reducible rfl))
            try simp only [Act.put, List.getElem_toArray, List.getElem_cons_zero, List.getElem_cons_succ, List.setIfInBounds_toArray, List.set_cons_zero, List.set_cons_succ]
            refine wpAnyH_take (i := 33) (v := ?_) rfl (by kernel_rfl) (by kernel_rfl) (by kernel_rfl) (fun _ _ _ h => h) (Or.inl ⟨by rfl, ?_⟩) (by assumption) ?_
            rotate_left
            · (intro w hSw; (try dsimp only at hSw); first | (go_simp; done) | (go_simp; with_reducible rfl))
            try simp only [Act.put, List.getElem_toArray, List.getElem_cons_zero, List.getElem_cons_succ, List.setIfInBounds_toArray, List.set_cons_zero, List.set_cons_succ]
            refine wpAnyH_take (i := 34) (v := ?_) rfl (by kernel_rfl) (by kernel_rfl) (by kernel_rfl) (fun _ _ _ h => h) (Or.inl ⟨by rfl, ?_⟩) (by assumption) ?_
            rotate_left
            · (intro w hSw; (try dsimp only at hSw); first | (go_simp; done) | (go_simp; with_reducible rfl))
            try simp only [Act.put, List.getElem_toArray, List.getElem_cons_zero, List.getElem_cons_succ, List.setIfInBounds_toArray, List.set_cons_zero, List.set_cons_succ]
            refine wpAnyH_take (i := 35) (v := ?_) rfl (by kernel_rfl) (by kernel_rfl) (by kernel_rfl) (fun _ _ _ h => h) (Or.inl ⟨by rfl, ?_⟩) (by assumption) ?_
            rotate_left
            · (intro w hSw; (try dsimp only at hSw); first | (go_simp; done) | (go_simp; with_reducible rfl))
            try simp only [Act.put, List.getElem_toArray, List.getElem_cons_zero, List.getElem_cons_succ, List.setIfInBounds_toArray, List.set_cons_zero, List.set_cons_succ]
            refine wpAnyH_take (i := 36) (v := ?_) rfl (by kernel_rfl) (by kernel_rfl) (by kernel_rfl) (fun _ _ _ h => h) (Or.inl ⟨by rfl, ?_⟩) (by assumption) ?_
            rotate_left
            · (intro w hSw; (try dsimp only at hSw); first | (go_simp; done) | (go_simp; with_reducible rfl))
            try simp only [Act.put, List.getElem_toArray, List.getElem_cons_zero, List.getElem_cons_succ, List.setIfInBounds_toArray, List.set_cons_zero, List.set_cons_succ]
            refine wpAnyH_take (i := 37) (v := ?_) rfl (by kernel_rfl) (by kernel_rfl) (by kernel_rfl) (fun _ _ _ h => h) (Or.inl ⟨by rfl, ?_⟩) (by assumption) ?_
            rotate_left
            · (intro w hSw; (try dsimp only at hSw); first | (go_simp; done) | (go_simp; with_reducible rfl))
            try simp only [Act.put, List.getElem_toArray, List.getElem_cons_zero, List.getElem_cons_succ, List.setIfInBounds_toArray, List.set_cons_zero, List.set_cons_succ]
            refine wpAnyH_take (i := 38) (v := ?_) rfl (by kernel_rfl) (by kernel_rfl) (by kernel_rfl) (fun _ _ _ h => h) (Or.inl ⟨by rfl, ?_⟩) (by assumption) ?_
            rotate_left
            · (intro w hSw; (try dsimp only at hSw); first | (go_simp; done) | (go_simp; with_reducible rfl))
            try simp only [Act.put, List.getElem_toArray, List.getElem_cons_zero, List.getElem_cons_succ, List.setIfInBounds_toArray, List.set_cons_zero, List.set_cons_succ]
            refine wpAnyH_take (i := 39) (v := ?_) rfl (by kernel_rfl) (by kernel_rfl) (by kernel_rfl) (fun _ _ _ h => h) (Or.inl ⟨by rfl, ?_⟩) (by assumption) ?_
            rotate_left
            · (intro w hSw; (try dsimp only at hSw); first | (go_simp; done) | (go_simp; with_reducible rfl))
            try simp only [Act.put, List.getElem_toArray, List.getElem_cons_zero, List.getElem_cons_succ, List.setIfInBounds_toArray, List.set_cons_zero, List.set_cons_succ]
            refine wpAnyH_take (i := 40) (v := ?_) rfl (by kernel_rfl) (by kernel_rfl) (by kernel_rfl) (fun _ _ _ h => h) (Or.inl ⟨by rfl, ?_⟩) (by assumption) ?_
            rotate_left
            · (intro w hSw; (try dsimp only at hSw); first | (go_simp; done) | (go_simp; with_reducible rfl))
            try simp only [Act.put, List.getElem_toArray, List.getElem_cons_zero, List.getElem_cons_succ, List.setIfInBounds_toArray, List.set_cons_zero, List.set_cons_succ]
            refine wpAnyH_take (i := 41) (v := ?_) rfl (by kernel_rfl) (by kernel_rfl) (by kernel_rfl) (fun _ _ _ h => h) (Or.inl ⟨by rfl, ?_⟩) (by assumption) ?_
            rotate_left
            · (intro w hSw; (try dsimp only at hSw); first | (go_simp; done) | (go_simp; with_reducible rfl))
            try simp only [Act.put, List.getElem_toArray, List.getElem_cons_zero, List.getElem_cons_succ, List.setIfInBounds_toArray, List.set_cons_zero, List.set_cons_succ]
            refine wpAnyH_take (i := 42) (v := ?_) rfl (by kernel_rfl) (by kernel_rfl) (by kernel_rfl) (fun _ _ _ h => h) (Or.inl ⟨by rfl, ?_⟩) (by assumption) ?_
            rotate_left
            · (intro w hSw; (try dsimp only at hSw); first | (go_simp; done) | (go_simp; with_reducible rfl))
            try simp only [Act.put, List.getElem_toArray, List.getElem_cons_zero, List.getElem_cons_succ, List.setIfInBounds_toArray, List.set_cons_zero, List.set_cons_succ]
            refine wpAnyH_ready (rs := [43]) (by kernel_rfl) (by simp) ?_
            refine AllReadyH.cons rfl (fun K hK => ?_) AllReadyH.nil
            go_simp
            go_at_call 26
            with_reducible refine (HS3.out m1 m2).mono ?_
            rintro e wz ⟨rfl, hbz⟩
            refine hK.out _ _ (hqF _ _ _ hbz) (fun hHeld => ?_)
            clear hK K
            try simp only [Act.put, List.getElem_toArray, List.getElem_cons_zero, List.getElem_cons_succ, List.setIfInBounds_toArray, List.set_cons_zero, List.set_cons_succ]
            refine wpAnyH_take (i := 44) (v := ?_) rfl (by kernel_rfl) (by kernel_rfl) (by kernel_rfl) (fun _ _ _ h => h) (Or.inl ⟨by rfl, ?_⟩) (by assumption) ?_
            rotate_left
            · (intro w hSw; (try dsimp only at hSw); first | (go_simp; done) | (go_simp; with_reducible rfl))
            try simp only [Act.put, List.getElem_toArray, List.getElem_cons_zero, List.getElem_cons_succ, List.setIfInBounds_toArray, List.set_cons_zero, List.set_cons_succ]
            refine wpAnyH_take (i := 45) (v := ?_) rfl (by kernel_rfl) (by kernel_rfl) (by kernel_rfl) (fun _ _ _ h => h) (Or.inl ⟨by rfl, ?_⟩) (by assumption) ?_
            rotate_left
            · (intro w hSw; (try dsimp only at hSw); first | (go_simp; done) | (go_simp; with_reducible rfl))
            try simp only [Act.put, List.getElem_toArray, List.getElem_cons_zero, List.getElem_cons_succ, List.setIfInBounds_toArray, List.set_cons_zero, List.set_cons_succ]
            refine wpAnyH_done (by kernel_rfl) ?_ _
            have HRz := Lib.hid ((HR7.out.drewN (1 + m1 + m2)).below hbz)
            go_wp2_with fail
            go_roundw
            case rel => exact ⟨t + 1, vw, cS j t j, some ⟨vw, nm, 2, [cR t], pv⟩, by go_num, rfl, by omega, by omega, HRz, ⟨fun e => by omega, fun c h => by cases h; exact Int.le_refl _⟩⟩
            case measure => first | (simp [intOf]; omega) | (have h9 := HTt.out; simp [intOf]; omega)
      · obtain ⟨t', rfl⟩ : ∃ t', t = t' + 1 := ⟨t - 1, by omega⟩
        have hgt : (0 : Int) < ((t' + 1 : Nat) : Int) := by omega
        have hsub : (((t' + 1 : Nat) : Int)) - 1 = (t' : Int) := by omega
        have ht'm : t' < m0 := by omega
        have ht'i : (t' : Int) < (m0 : Int) := by omega
        obtain ⟨ad, z1, rfl, hab, hc1, hd1, hzm1⟩ := (HL.out.has.below HR.out.low (Nat.le_refl _)).int (show t' < zs.length by rw [HN.out]; exact ht'm)
        obtain ⟨y1, y2⟩ := wf_i64 (HL.out.fits z1 hzm1)
        have HW1 := Lib.hid (fun (w : World) => within_any z1 13 (by omega) (by omega) y1 y2 w)
        obtain ⟨s, hs⟩ : ∃ s, z1 % 13 = s := ⟨_, rfl⟩
        have hs13 : 0 ≤ s ∧ s < 13 := by omega
        rw [hs] at HW1
        obtain ⟨T, hT⟩ : ∃ T : Int, ((t' + 1 : Nat) : Int) = T := ⟨_, rfl⟩
        have HT := Lib.hid hT
        clear hs y1 y2 hzm1 hd1 hab ht0
        rw [hT] at hgt hsub hlti hlti2 ⊢
        clear hT
        by_cases hlv : vw < s
        · have HLv := Lib.hid (r_leave HR.out (v := s) hlv (by omega) (n := n) HNn.out)
          have HPz := Lib.hid (show ∀ c : Ct, pr = some c → c.vw ≠ s from fun c h => by
            have := HPr.out.2 c h
            omega)
          go_wp2_with fail
          refine (HW1.out _).mono ?_
          rintro e wq ⟨rfl, rfl⟩
          clear hc1
          go_wp2_with fail
          refine HLv.out.mono ?_
          rintro e w2 ⟨rfl, hr, -⟩
          have HR2 := Lib.hid hr
          clear hr HLv HR
          go_wp2_with fail
          refine (r_install_nil HR2.out rfl).mono ?_
          rintro e w3 ⟨rfl, hr, -⟩
          have HR := Lib.hid (show Ri w ib (cX (1 + (p : Int)) nm s n (Sx.new n) pr) w3 from by
            rw [cX_inst] at hr
            exact hr)
          obtain ⟨vw', hvw'⟩ : ∃ y, s = y := ⟨_, rfl⟩
          clear hr HR2 HPr hlv
          rw [← HT.out] at hgt hsub hlti hlti2 ⊢
          have HTt := Lib.hid (show T = ((t' + 1 : Nat) : Int) from HT.out.symm)
          obtain ⟨t, ht⟩ : ∃ t, t' + 1 = t := ⟨_, rfl⟩
          rw [ht] at hgt hsub hlti hlti2 hlt1 hlt2 HTt ⊢
          clear HT ht
          subst hvw'
          obtain ⟨wr, hwr⟩ : ∃ y, w3 = y := ⟨_, rfl⟩
          rw [hwr] at HR ⊢
          clear hwr
          go_wp2_with fail
          have HB1 := Lib.hid (show Blk (wr.alloc (.cells #[.int .i64 0, .int .i64 (1 + (t : Int)), .int .i64 0, .int .i64 0, .int .i64 0, .int .i64 0] 41)) wr.heap.size 41 (rqCells (cR t)) from Blk.new wr _ _)
          have HR1 := Lib.hid (HR.out.below (wz := wr.alloc (.cells #[.int .i64 0, .int .i64 (1 + (t : Int)), .int .i64 0, .int .i64 0, .int .i64 0, .int .i64 0] 41)) ((Below.refl _ _).alloc (Nat.le_refl _) _))
          obtain ⟨g2, hg2⟩ : ∃ y, wr.heap.size = y := ⟨_, rfl⟩
          rw [hg2] at HB1 ⊢
          have HP := Lib.hid (r_pre (k := 1) (p := ⟨Sx.new n, pr, none⟩) (c := 1) HR1.out rfl rfl (by show ((1 : Nat) : Int) + 1 ≤ ((_ : Nat) : Int) + 4; omega) (has_one (cR t) HB1.out) (n := 1) rfl (by omega))
          rw [c_pre] at HP
          clear hg2 HR
          refine HP.out.mono ?_
          rintro e w5 ⟨rfl, hr, hkp⟩
          have HR5 := Lib.hid (show Ri w ib (cX (1 + (p : Int)) nm s n (cS n t 0) pr) w5 from hr)
          have HB5 := Lib.hid (hkp.blk HB1.out (by decide) (by decide) (by decide))
          clear hr hkp HP HR1 HB1
          go_wp2_with fail
          go_loopw [13] (fun y wr => ∃ j : Nat, y = .int .i64 j ∧ j ≤ n ∧ Hid (Ri w ib (cX (1 + (p : Int)) nm s n (cS n t j) pr) wr) ∧ Hid (Blk wr g2 41 (rqCells (cR t)))) (fun y _ => n - (intOf y).toNat)
          case atStart => exact ⟨0, rfl, Nat.zero_le _, HR5, HB5⟩
          case round =>
            clear HR5 HB5
            obtain ⟨j, rfl, hj, HR, HB⟩ := hrel
            by_cases hjn : j < n
            · have hjni : (j : Int) < (n : Int) := by omega
              have hj13 : (j : Int) < 13 := by have := HQn.out.2.2; omega
              have HV := Lib.hid (r_vote (k := 1) (p := ⟨cS n t j, pr, none⟩) (c := 1) HR.out rfl rfl 4 j (10 * (t : Int) + (j : Int)) (has_one (cR t) HB.out) (n := 1) rfl (by omega))
              simp only [c_vote t hjn] at HV
              have x1 : IntKind.i64.wrap (10 * (t : Int)) = 10 * (t : Int) := by rw [IntKind.wrap_i64]; omega
              have x2 : IntKind.i64.wrap (10 * (t : Int) + (j : Int)) = 10 * (t : Int) + (j : Int) := by rw [IntKind.wrap_i64]; omega
              go_wp2_with fail
              refine (HNo.out _).mono ?_
              rintro e wq ⟨rfl, rfl⟩
              go_wp2_with fail
              refine HV.out.mono ?_
              rintro e w6 ⟨rfl, hr, hkp⟩
              have HR6 := Lib.hid (show Ri w ib (cX (1 + (p : Int)) nm s n (cS n t (j + 1)) pr) w6 from hr)
              have HB6 := Lib.hid (hkp.blk HB.out (by decide) (by decide) (by decide))
              clear hr hkp HV HR HB
              go_wp2_with fail
              go_roundw
              case rel => exact ⟨_, _, _, _, _, _, _, _, _, _, _, _, _, _, _, ⟨j + 1, by go_num, by omega, HR6, HB6⟩, rfl⟩
              case measure => simp [intOf]; omega
            · obtain rfl : j = n := by omega
              obtain ⟨pv, hpv, hpl, hri⟩ := HPrep.out t
              have HPl := Lib.hid hpl
              have HRi := Lib.hid hri
              have HPy := Lib.hid (r_prepared (k := 1) (p := ⟨cS j t j, pr, none⟩) HR.out rfl rfl HPz.out HQq.out hpv rfl)
              rw [show (cX (1 + (p : Int)) nm s j (cS j t j) pr).vw = s from rfl, show (cX (1 + (p : Int)) nm s j (cS j t j) pr).num = nm from rfl, show [cR t].length = 1 from rfl, hpl] at HPy
              have hjn2 : ¬ (j : Int) < (j : Int) := by omega
              clear hjn hpv hpl hri
              go_wp2_with fail
              refine (HNo.out _).mono ?_
              rintro e wq ⟨rfl, rfl⟩
              go_wp2_with fail
              refine HPy.out.mono ?_
              rintro e w6 ⟨A5, d5, B5, e5, rfl, hn6, hr, hkp⟩
              have hal : Below w6.heap.size w6 (w6.alloc (.cells #[.int .i64 s, .int .i64 nm, .int .i64 2, .slice A5 1 d5, .slice B5 q e5] 31)) := (Below.refl _ _).alloc (Nat.le_refl _) _
              have HR6 := Lib.hid (show Ri w ib (cX (1 + (p : Int)) nm s j (cS j t j) (some ⟨s, nm, 2, [cR t], pv⟩)) (w6.alloc (.cells #[.int .i64 s, .int .i64 nm, .int .i64 2, .slice A5 1 d5, .slice B5 q e5] 31)) from Ri.below hr hal)
              have HB6 := Lib.hid ((hkp.blk HB.out (by decide) (by decide) (by decide)).alloc (.cells #[.int .i64 s, .int .i64 nm, .int .i64 2, .slice A5 1 d5, .slice B5 q e5] 31))
              have HK6 := Lib.hid (Blk.new w6 31 #[.int .i64 s, .int .i64 nm, .int .i64 2, .slice A5 1 d5, .slice B5 q e5])
              have HN6 := Lib.hid (hn6.below hal)
              obtain ⟨g5, hg5⟩ : ∃ y, w6.heap.size = y := ⟨_, rfl⟩
              rw [hg5] at HK6
              have HG5 := Lib.hid hg5
              clear hn6 hr hkp hal HPy HR HB hg5
              have HCt := Lib.hid (r_certs HR6.out)
              rw [cX_certs] at HCt
              go_wp2_with fail
              rw [HG5.out]
              refine HCt.out.mono ?_
              rintro e w7 ⟨u, rfl, ⟨M, hM1, hM2, hM3⟩, hb7⟩
              obtain ⟨x, rfl⟩ : ∃ x, M = [x] := by
                have := congrArg List.length hM1
                exact List.length_eq_one_iff.1 (by simpa using this)
              obtain ⟨xc, X1, f1, X2, f2⟩ := x
              obtain rfl : xc = ⟨s, nm, 2, [cR t], pv⟩ := by simpa using hM1
              have hX := hM3 _ List.mem_cons_self
              change w7.ownsRow _ _ _ _ 1 [.int .i64 s, .int .i64 nm, .int .i64 2, .slice X1 [cR t].length f1, .slice X2 pv.length f2] at hM2
              rw [show [cR t].length = 1 from rfl, HPl.out] at hM2
              obtain ⟨gl, d8, rfl, -, -⟩ := hM2.form (by omega)
              have HR7 := Lib.hid (HR6.out.below hb7)
              have HB7 := Lib.hid (HB6.out.below hb7 HB6.out.lt)
              have HK7 := Lib.hid (HK6.out.below hb7 HK6.out.lt)
              have HN7 := Lib.hid (HN6.out.below hb7)
              have HM2 := Lib.hid hM2
              have HX := Lib.hid hX
              clear hM1 hM2 hM3 hX hb7 HCt HR6 HB6 HK6 HN6 HG5
              have hq1 := cc_cells HK7.out.drew (below_own HM2.out (show Below w7.heap.size w7 w7.drew from ⟨rfl, rfl, rfl, Nat.le_refl _, fun _ _ => rfl⟩) (Nat.le_refl _))
              have hqD := fun m1 => cc_cells (HK7.out.drew.drewN m1) (below_own HM2.out (show Below w7.heap.size w7 (w7.drew.drewN m1) from ⟨rfl, rfl, rfl, Nat.le_refl _, fun _ _ => rfl⟩) (Nat.le_refl _))
              have hqE := fun m1 m2 => cc_cells ((HK7.out.drew.drewN m1).drewN m2) (below_own HM2.out (show Below w7.heap.size w7 ((w7.drew.drewN m1).drewN m2) from ⟨rfl, rfl, rfl, Nat.le_refl _, fun _ _ => rfl⟩) (Nat.le_refl _))
              have hqF := fun (m1 m2 : Nat) (wz : World) (hb : Below w7.heap.size (w7.drewN (1 + m1 + m2)) wz) => cc_cells ((HK7.out.drewN (1 + m1 + m2)).below hb HK7.out.lt) (below_own (below_own HM2.out (show Below w7.heap.size w7 (w7.drewN (1 + m1 + m2)) from ⟨rfl, rfl, rfl, Nat.le_refl _, fun _ _ => rfl⟩) (Nat.le_refl _)) hb (Nat.le_refl _))
              have hb5 := HN7.out.bt
              have hv5 := HN7.out.vs
              have HS1 := Lib.hid (same_reqs_is (A := A5) (A' := some ⟨g2, 0, none⟩) (c := d5) (c' := 1) (la := 1) (lb := 1) (zs := [cR t]) (ys := [cR t]) (r := true) rfl rfl (by omega) (sameL_self' _) w7.drew (has_rows (below_own hb5 (show Below w7.heap.size w7 w7.drew from ⟨rfl, rfl, rfl, Nat.le_refl _, fun _ _ => rfl⟩) (Nat.le_refl _))) (has_one (cR t) HB7.out.drew))
              have HS2 := Lib.hid (fun m1 => rrising_any (c := e5) (f := 1 + (p : Int)) ((has_rows hv5).drewN (1 + m1)) HPl.out (by have := HQn.out.2.1; unfold maxLen; omega))
              rw [HRi.out] at HS2
              have HS3 := Lib.hid (fun m1 m2 => same_cert ⟨⟨s, nm, 2, [cR t], pv⟩, X1, f1, X2, f2⟩ ⟨⟨s, nm, 2, [cR t], pv⟩, A5, d5, B5, e5⟩ w7.heap.size (w7.drewN (1 + m1 + m2)) ⟨(has_rows HX.out.bt).drewN _, (has_rows HX.out.vs).drewN _⟩ ⟨(has_rows hb5).drewN _, (has_rows hv5).drewN _⟩ (Nat.le_refl _) ⟨by show (1 : Nat) ≤ 9223372036854775806; omega, by show pv.length ≤ 9223372036854775806; rw [HPl.out]; have := HQn.out.2.1; omega⟩)
              simp only [HPl.out, show [cR t].length = 1 from rfl, decide_true] at HS3
              clear hb5 hv5
              go_wp2_with fail
              refine wp_region_held_drew (S := fun w' => w'.cell? ⟨g5, 0, none⟩ = some (.int .i64 s) ∧ w'.cell? ⟨g5, 1, none⟩ = some (.int .i64 nm) ∧ w'.cell? ⟨g5, 2, none⟩ = some (.int .i64 2) ∧ w'.cell? ⟨g5, 3, none⟩ = some (.slice A5 1 d5) ∧ w'.cell? ⟨g5, 4, none⟩ = some (.slice B5 q e5) ∧ w'.cell? ⟨gl, 0, none⟩ = some (.int .i64 s) ∧ w'.cell? ⟨gl, 1, none⟩ = some (.int .i64 nm) ∧ w'.cell? ⟨gl, 2, none⟩ = some (.int .i64 2) ∧ w'.cell? ⟨gl, 3, none⟩ = some (.slice X1 1 f1) ∧ w'.cell? ⟨gl, 4, none⟩ = some (.slice X2 q f2)) (by kernel_rfl) (hq1) (fun hHeld => ?_)
              refine wpAnyH_take (i := 0) (v := ?_) rfl (by kernel_rfl) (by kernel_rfl) (by kernel_rfl) (fun _ _ _ h => h) (Or.inl ⟨by rfl, ?_⟩) (by assumption) ?_
              rotate_left
              · (intro w hSw; (try dsimp only at hSw); first | (go_simp; done) | (go_simp; with_reducible rfl))
              try simp only [Act.put, List.getElem_toArray, List.getElem_cons_zero, List.getElem_cons_succ, List.setIfInBounds_toArray, List.set_cons_zero, List.set_cons_succ]
              refine wpAnyH_take (i := 1) (v := ?_) rfl (by kernel_rfl) (by kernel_rfl) (by kernel_rfl) (fun _ _ _ h => h) (Or.inl ⟨by rfl, ?_⟩) (by assumption) ?_
              rotate_left
              · (intro w hSw; (try dsimp only at hSw); first | (go_simp; done) | (go_simp; with_reducible rfl))
              try simp only [Act.put, List.getElem_toArray, List.getElem_cons_zero, List.getElem_cons_succ, List.setIfInBounds_toArray, List.set_cons_zero, List.set_cons_succ]
              refine wpAnyH_take (i := 2) (v := ?_) rfl (by kernel_rfl) (by kernel_rfl) (by kernel_rfl) (fun _ _ _ h => h) (Or.inl ⟨by rfl, ?_⟩) (by assumption) ?_
              rotate_left
              · (intro w hSw; (try dsimp only at hSw); first | (go_simp; done) | (go_simp; with_reducible rfl))
              try simp only [Act.put, List.getElem_toArray, List.getElem_cons_zero, List.getElem_cons_succ, List.setIfInBounds_toArray, List.set_cons_zero, List.set_cons_succ]
              refine wpAnyH_take (i := 3) (v := ?_) rfl (by kernel_rfl) (by kernel_rfl) (by kernel_rfl) (fun _ _ _ h => h) (Or.inl ⟨by rfl, ?_⟩) (by assumption) ?_
              rotate_left
              · (intro w hSw; (try dsimp only at hSw); first | (go_simp; done) | (go_simp; with_reducible rfl))
              try simp only [Act.put, List.getElem_toArray, List.getElem_cons_zero, List.getElem_cons_succ, List.setIfInBounds_toArray, List.set_cons_zero, List.set_cons_succ]
              refine wpAnyH_take (i := 4) (v := ?_) rfl (by kernel_rfl) (by kernel_rfl) (by kernel_rfl) (fun _ _ _ h => h) (Or.inl ⟨by rfl, ?_⟩) (by assumption) ?_
              rotate_left
              · (intro w hSw; (try dsimp only at hSw); first | (go_simp; done) | (go_simp; with_reducible rfl))
              try simp only [Act.put, List.getElem_toArray, List.getElem_cons_zero, List.getElem_cons_succ, List.setIfInBounds_toArray, List.set_cons_zero, List.set_cons_succ]
              refine wpAnyH_take (i := 5) (v := ?_) rfl (by kernel_rfl) (by kernel_rfl) (by kernel_rfl) (fun _ _ _ h => h) (Or.inl ⟨by rfl, ?_⟩) (by assumption) ?_
              rotate_left
              · (intro w hSw; (try dsimp only at hSw); first | (go_simp; done) | (go_simp; with_reducible rfl))
              try simp only [Act.put, List.getElem_toArray, List.getElem_cons_zero, List.getElem_cons_succ, List.setIfInBounds_toArray, List.set_cons_zero, List.set_cons_succ]
              refine wpAnyH_take (i := 6) (v := ?_) rfl (by kernel_rfl) (by kernel_rfl) (by kernel_rfl) (fun _ _ _ h => h) (Or.inl ⟨by rfl, ?_⟩) (by assumption) ?_
              rotate_left
              · (intro w hSw; (try dsimp only at hSw); first | (go_simp; done) | (go_simp; with_reducible rfl))
              try simp only [Act.put, List.getElem_toArray, List.getElem_cons_zero, List.getElem_cons_succ, List.setIfInBounds_toArray, List.set_cons_zero, List.set_cons_succ]
              refine wpAnyH_take (i := 7) (v := ?_) rfl (by kernel_rfl) (by kernel_rfl) (by kernel_rfl) (fun _ _ _ h => h) (Or.inl ⟨by rfl, ?_⟩) (by assumption) ?_
              rotate_left
              · (intro w hSw; (try dsimp only at hSw); first | (go_simp; done) | (go_simp; with_reducible rfl))
              try simp only [Act.put, List.getElem_toArray, List.getElem_cons_zero, List.getElem_cons_succ, List.setIfInBounds_toArray, List.set_cons_zero, List.set_cons_succ]
              refine wpAnyH_take (i := 8) (v := ?_) rfl (by kernel_rfl) (by kernel_rfl) (by kernel_rfl) (fun _ _ _ h => h) (Or.inl ⟨by rfl, ?_⟩) (by assumption) ?_
              rotate_left
              · (intro w hSw; (try dsimp only at hSw); first | (go_simp; done) | (go_simp; with_reducible rfl))
              try simp only [Act.put, List.getElem_toArray, List.getElem_cons_zero, List.getElem_cons_succ, List.setIfInBounds_toArray, List.set_cons_zero, List.set_cons_succ]
              refine wpAnyH_take (i := 9) (v := ?_) rfl (by kernel_rfl) (by kernel_rfl) (by kernel_rfl) (fun _ _ _ h => h) (Or.inl ⟨by rfl, ?_⟩) (by assumption) ?_
              rotate_left
              · (intro w hSw; (try dsimp only at hSw); first | (go_simp; done) | (go_simp; with_reducible rfl))
              try simp only [Act.put, List.getElem_toArray, List.getElem_cons_zero, List.getElem_cons_succ, List.setIfInBounds_toArray, List.set_cons_zero, List.set_cons_succ]
              refine wpAnyH_take (i := 10) (v := ?_) rfl (by kernel_rfl) (by kernel_rfl) (by kernel_rfl) (fun _ _ _ h => h) (Or.inl ⟨by rfl, ?_⟩) (by assumption) ?_
              rotate_left
              · (intro w hSw; (try dsimp only at hSw); first | (go_simp; done) | (go_simp; with_reducible rfl))
              try simp only [Act.put, List.getElem_toArray, List.getElem_cons_zero, List.getElem_cons_succ, List.setIfInBounds_toArray, List.set_cons_zero, List.set_cons_succ]
              refine wpAnyH_take (i := 11) (v := ?_) rfl (by kernel_rfl) (by kernel_rfl) (by kernel_rfl) (fun _ _ _ h => h) (Or.inl ⟨by rfl, ?_⟩) (by assumption) ?_
              rotate_left
              · (intro w hSw; (try dsimp only at hSw); first | (go_simp; done) | (go_simp; with_reducible rfl))
              try simp only [Act.put, List.getElem_toArray, List.getElem_cons_zero, List.getElem_cons_succ, List.setIfInBounds_toArray, List.set_cons_zero, List.set_cons_succ]
              refine wpAnyH_take (i := 12) (v := ?_) rfl (by kernel_rfl) (by kernel_rfl) (by kernel_rfl) (fun _ _ _ h => h) (Or.inl ⟨by rfl, ?_⟩) (by assumption) ?_
              rotate_left
              · (intro w hSw; (try dsimp only at hSw); first | (go_simp; done) | (go_simp; with_reducible rfl))
              try simp only [Act.put, List.getElem_toArray, List.getElem_cons_zero, List.getElem_cons_succ, List.setIfInBounds_toArray, List.set_cons_zero, List.set_cons_succ]
              refine wpAnyH_take (i := 13) (v := ?_) rfl (by kernel_rfl) (by kernel_rfl) (by kernel_rfl) (fun _ _ _ h => h) (Or.inl ⟨by rfl, ?_⟩) (by assumption) ?_
              rotate_left
              · (intro w hSw; (try dsimp only at hSw); first | (go_simp; done) | (go_simp; with_reducible rfl))
              try simp only [Act.put, List.getElem_toArray, List.getElem_cons_zero, List.getElem_cons_succ, List.setIfInBounds_toArray, List.set_cons_zero, List.set_cons_succ]
              refine wpAnyH_take (i := 14) (v := ?_) rfl (by kernel_rfl) (by kernel_rfl) (by kernel_rfl) (fun _ _ _ h => h) (Or.inl ⟨by rfl, ?_⟩) (by assumption) ?_
              rotate_left
              · (intro w hSw; (try dsimp only at hSw); first | (go_simp; done) | (go_simp; with_reducible rfl))
              try simp only [Act.put, List.getElem_toArray, List.getElem_cons_zero, List.getElem_cons_succ, List.setIfInBounds_toArray, List.set_cons_zero, List.set_cons_succ]
              refine wpAnyH_take (i := 15) (v := ?_) rfl (by kernel_rfl) (by kernel_rfl) (by kernel_rfl) (fun _ _ _ h => h) (Or.inl ⟨by rfl, ?_⟩) (by assumption) ?_
              rotate_left
              · (intro w hSw; (try dsimp only at hSw); first | (go_simp; done) | (go_simp; with_reducible rfl))
              try simp only [Act.put, List.getElem_toArray, List.getElem_cons_zero, List.getElem_cons_succ, List.setIfInBounds_toArray, List.set_cons_zero, List.set_cons_succ]
              refine wpAnyH_take (i := 16) (v := ?_) rfl (by kernel_rfl) (by kernel_rfl) (by kernel_rfl) (fun _ _ _ h => h) (Or.inl ⟨by rfl, ?_⟩) (by assumption) ?_
              rotate_left
              · (intro w hSw; (try dsimp only at hSw); first | (go_simp; done) | (go_simp; with_reducible rfl))
              try simp only [Act.put, List.getElem_toArray, List.getElem_cons_zero, List.getElem_cons_succ, List.setIfInBounds_toArray, List.set_cons_zero, List.set_cons_succ]
              refine wpAnyH_take (i := 17) (v := ?_) rfl (by kernel_rfl) (by kernel_rfl) (by kernel_rfl) (fun _ _ _ h => h) (Or.inl ⟨by rfl, ?_⟩) (by assumption) ?_
              rotate_left
              · (intro w hSw; (try dsimp only at hSw); first | (go_simp; done) | (go_simp; with_reducible rfl))
              try simp only [Act.put, List.getElem_toArray, List.getElem_cons_zero, List.getElem_cons_succ, List.setIfInBounds_toArray, List.set_cons_zero, List.set_cons_succ]
              refine wpAnyH_take (i := 18) (v := ?_) rfl (by kernel_rfl) (by kernel_rfl) (by kernel_rfl) (fun _ _ _ h => h) (Or.inl ⟨by rfl, ?_⟩) (by assumption) ?_
              rotate_left
              · (intro w hSw; (try dsimp only at hSw); first | (go_simp; done) | (go_simp; with_reducible rfl))
              try simp only [Act.put, List.getElem_toArray, List.getElem_cons_zero, List.getElem_cons_succ, List.setIfInBounds_toArray, List.set_cons_zero, List.set_cons_succ]
              refine wpAnyH_take (i := 19) (v := ?_) rfl (by kernel_rfl) (by kernel_rfl) (by kernel_rfl) (fun _ _ _ h => h) (Or.inl ⟨by rfl, ?_⟩) (by assumption) ?_
              rotate_left
              · (intro w hSw; (try dsimp only at hSw); first | (go_simp; done) | (go_simp; with_reducible rfl))
              try simp only [Act.put, List.getElem_toArray, List.getElem_cons_zero, List.getElem_cons_succ, List.setIfInBounds_toArray, List.set_cons_zero, List.set_cons_succ]
              refine wpAnyH_take (i := 20) (v := ?_) rfl (by kernel_rfl) (by kernel_rfl) (by kernel_rfl) (fun _ _ _ h => h) (Or.inl ⟨by rfl, ?_⟩) (by assumption) ?_
              rotate_left
              · (intro w hSw; (try dsimp only at hSw); first | (go_simp; done) | (go_simp; with_reducible rfl))
              try simp only [Act.put, List.getElem_toArray, List.getElem_cons_zero, List.getElem_cons_succ, List.setIfInBounds_toArray, List.set_cons_zero, List.set_cons_succ]
              refine wpAnyH_take (i := 21) (v := ?_) rfl (by kernel_rfl) (by kernel_rfl) (by kernel_rfl) (fun _ _ _ h => h) (Or.inl ⟨by rfl, ?_⟩) (by assumption) ?_
              rotate_left
              · (intro w hSw; (try dsimp only at hSw); first | (go_simp; done) | (go_simp; with_reducible rfl))
              try simp only [Act.put, List.getElem_toArray, List.getElem_cons_zero, List.getElem_cons_succ, List.setIfInBounds_toArray, List.set_cons_zero, List.set_cons_succ]
              refine wpAnyH_take (i := 22) (v := ?_) rfl (by kernel_rfl) (by kernel_rfl) (by kernel_rfl) (fun _ _ _ h => h) (Or.inl ⟨by rfl, ?_⟩) (by assumption) ?_
              rotate_left
              · (intro w hSw; (try dsimp only at hSw); first | (go_simp; done) | (go_simp; with_reducible rfl))
              try simp only [Act.put, List.getElem_toArray, List.getElem_cons_zero, List.getElem_cons_succ, List.setIfInBounds_toArray, List.set_cons_zero, List.set_cons_succ]
              refine wpAnyH_ready (rs := [23]) (by kernel_rfl) (by simp) ?_
              refine AllReadyH.cons rfl (fun K hK => ?_) AllReadyH.nil
              go_simp
              go_at_call 19
              with_reducible refine HS1.out.mono ?_
              rintro e wx ⟨rfl, m1, rfl⟩
              refine hK.out _ _ (hqD m1) (fun hHeld => ?_)
              clear hK K
              try simp only [Act.put, List.getElem_toArray, List.getElem_cons_zero, List.getElem_cons_succ, List.setIfInBounds_toArray, List.set_cons_zero, List.set_cons_succ]
              refine wpAnyH_take (i := 24) (v := ?_) rfl (by kernel_rfl) (by kernel_rfl) (by kernel_rfl) (fun _ _ _ h => h) (Or.inl ⟨by rfl, ?_⟩) (by assumption) ?_
              rotate_left
              · (intro w hSw; (try dsimp only at hSw); first | (go_simp; done) | (go_simp; with_reducible rfl))
              try simp only [Act.put, List.getElem_toArray, List.getElem_cons_zero, List.getElem_cons_succ, List.setIfInBounds_toArray, List.set_cons_zero, List.set_cons_succ]
              refine wpAnyH_take (i := 25) (v := ?_) rfl (by kernel_rfl) (by kernel_rfl) (by kernel_rfl) (fun _ _ _ h => h) (Or.inl ⟨by rfl, ?_⟩) (by assumption) ?_
              rotate_left
              · (intro w hSw; (try dsimp only at hSw); first | (go_simp; done) | (go_simp; with_reducible rfl))
              try simp only [Act.put, List.getElem_toArray, List.getElem_cons_zero, List.getElem_cons_succ, List.setIfInBounds_toArray, List.set_cons_zero, List.set_cons_succ]
              refine wpAnyH_take (i := 26) (v := ?_) rfl (by kernel_rfl) (by kernel_rfl) (by kernel_rfl) (fun _ _ _ h => h) (Or.inl ⟨by rfl, ?_⟩) (by assumption) ?_
              rotate_left
              · (intro w hSw; (try dsimp only at hSw); first | (go_simp; done) | (go_simp; with_reducible rfl))
              try simp only [Act.put, List.getElem_toArray, List.getElem_cons_zero, List.getElem_cons_succ, List.setIfInBounds_toArray, List.set_cons_zero, List.set_cons_succ]
              refine wpAnyH_take (i := 27) (v := ?_) rfl (by kernel_rfl) (by kernel_rfl) (by kernel_rfl) (fun _ _ _ h => h) (Or.inl ⟨by rfl, ?_⟩) (by assumption) ?_
              rotate_left
              · (intro w hSw; (try dsimp only at hSw); first | (go_simp; done) | (go_simp; with_reducible rfl))
              try simp only [Act.put, List.getElem_toArray, List.getElem_cons_zero, List.getElem_cons_succ, List.setIfInBounds_toArray, List.set_cons_zero, List.set_cons_succ]
              refine wpAnyH_take (i := 28) (v := ?_) rfl (by kernel_rfl) (by kernel_rfl) (by kernel_rfl) (fun _ _ _ h => h) (Or.inl ⟨by rfl, ?_⟩) (by assumption) ?_
              rotate_left
              · (intro w hSw; (try dsimp only at hSw); first | (go_simp; done) | (go_simp; with_reducible rfl))
              try simp only [Act.put, List.getElem_toArray, List.getElem_cons_zero, List.getElem_cons_succ, List.setIfInBounds_toArray, List.set_cons_zero, List.set_cons_succ]
              refine wpAnyH_take (i := 29) (v := ?_) rfl (by kernel_rfl) (by kernel_rfl) (by kernel_rfl) (fun _ _ _ h => h) (Or.inl ⟨by rfl, ?_⟩) (by assumption) ?_
              rotate_left
              · (intro w hSw; (try dsimp only at hSw); first | (go_simp; done) | (go_simp; with_reducible rfl))
              try simp only [Act.put, List.getElem_toArray, List.getElem_cons_zero, List.getElem_cons_succ, List.setIfInBounds_toArray, List.set_cons_zero, List.set_cons_succ]
              refine wpAnyH_ready (rs := [30]) (by kernel_rfl) (by simp) ?_
              refine AllReadyH.cons rfl (fun K hK => ?_) AllReadyH.nil
              go_simp
              go_at_call 25
              with_reducible refine (HS2.out m1).mono ?_
              rintro e wy ⟨rfl, m2, rfl⟩
              refine hK.out _ _ (hqE m1 m2) (fun hHeld => ?_)
              clear hK K
              try simp only [Act.put, List.getElem_toArray, List.getElem_cons_zero, List.getElem_cons_succ, List.setIfInBounds_toArray, List.set_cons_zero, List.set_cons_succ]
              refine wpAnyH_take (i := 31) (v := ?_) rfl (by kernel_rfl) (by kernel_rfl) (by kernel_rfl) (fun _ _ _ h => h) (Or.inl ⟨by rfl, ?_⟩) (by assumption) ?_
              rotate_left
              · (intro w hSw; (try dsimp only at hSw); first | (go_simp; done) | (go_simp; with_reducible rfl))
              try simp only [Act.put, List.getElem_toArray, List.getElem_cons_zero, List.getElem_cons_succ, List.setIfInBounds_toArray, List.set_cons_zero, List.set_cons_succ]
              refine wpAnyH_take (i := 32) (v := ?_) rfl (by kernel_rfl) (by kernel_rfl) (by kernel_rfl) (fun _ _ _ h => h) (Or.inl ⟨by rfl, ?_⟩) (by assumption) ?_
              rotate_left
              · (intro w hSw; (try dsimp only at hSw); first | (go_simp; done) | (go_simp; with_reducible rfl))
              try simp only [Act.put, List.getElem_toArray, List.getElem_cons_zero, List.getElem_cons_succ, List.setIfInBounds_toArray, List.set_cons_zero, List.set_cons_succ]
              refine wpAnyH_take (i := 33) (v := ?_) rfl (by kernel_rfl) (by kernel_rfl) (by kernel_rfl) (fun _ _ _ h => h) (Or.inl ⟨by rfl, ?_⟩) (by assumption) ?_
              rotate_left
              · (intro w hSw; (try dsimp only at hSw); first | (go_simp; done) | (go_simp; with_reducible rfl))
              try simp only [Act.put, List.getElem_toArray, List.getElem_cons_zero, List.getElem_cons_succ, List.setIfInBounds_toArray, List.set_cons_zero, List.set_cons_succ]
              refine wpAnyH_take (i := 34) (v := ?_) rfl (by kernel_rfl) (by kernel_rfl) (by kernel_rfl) (fun _ _ _ h => h) (Or.inl ⟨by rfl, ?_⟩) (by assumption) ?_
              rotate_left
              · (intro w hSw; (try dsimp only at hSw); first | (go_simp; done) | (go_simp; with_reducible rfl))
              try simp only [Act.put, List.getElem_toArray, List.getElem_cons_zero, List.getElem_cons_succ, List.setIfInBounds_toArray, List.set_cons_zero, List.set_cons_succ]
              refine wpAnyH_take (i := 35) (v := ?_) rfl (by kernel_rfl) (by kernel_rfl) (by kernel_rfl) (fun _ _ _ h => h) (Or.inl ⟨by rfl, ?_⟩) (by assumption) ?_
              rotate_left
              · (intro w hSw; (try dsimp only at hSw); first | (go_simp; done) | (go_simp; with_reducible rfl))
              try simp only [Act.put, List.getElem_toArray, List.getElem_cons_zero, List.getElem_cons_succ, List.setIfInBounds_toArray, List.set_cons_zero, List.set_cons_succ]
              refine wpAnyH_take (i := 36) (v := ?_) rfl (by kernel_rfl) (by kernel_rfl) (by kernel_rfl) (fun _ _ _ h => h) (Or.inl ⟨by rfl, ?_⟩) (by assumption) ?_
              rotate_left
              · (intro w hSw; (try dsimp only at hSw); first | (go_simp; done) | (go_simp; with_reducible rfl))
              try simp only [Act.put, List.getElem_toArray, List.getElem_cons_zero, List.getElem_cons_succ, List.setIfInBounds_toArray, List.set_cons_zero, List.set_cons_succ]
              refine wpAnyH_take (i := 37) (v := ?_) rfl (by kernel_rfl) (by kernel_rfl) (by kernel_rfl) (fun _ _ _ h => h) (Or.inl ⟨by rfl, ?_⟩) (by assumption) ?_
              rotate_left
              · (intro w hSw; (try dsimp only at hSw); first | (go_simp; done) | (go_simp; with_reducible rfl))
              try simp only [Act.put, List.getElem_toArray, List.getElem_cons_zero, List.getElem_cons_succ, List.setIfInBounds_toArray, List.set_cons_zero, List.set_cons_succ]
              refine wpAnyH_take (i := 38) (v := ?_) rfl (by kernel_rfl) (by kernel_rfl) (by kernel_rfl) (fun _ _ _ h => h) (Or.inl ⟨by rfl, ?_⟩) (by assumption) ?_
              rotate_left
              · (intro w hSw; (try dsimp only at hSw); first | (go_simp; done) | (go_simp; with_reducible rfl))
              try simp only [Act.put, List.getElem_toArray, List.getElem_cons_zero, List.getElem_cons_succ, List.setIfInBounds_toArray, List.set_cons_zero, List.set_cons_succ]
              refine wpAnyH_take (i := 39) (v := ?_) rfl (by kernel_rfl) (by kernel_rfl) (by kernel_rfl) (fun _ _ _ h => h) (Or.inl ⟨by rfl, ?_⟩) (by assumption) ?_
              rotate_left
              · (intro w hSw; (try dsimp only at hSw); first | (go_simp; done) | (go_simp; with_reducible rfl))
              try simp only [Act.put, List.getElem_toArray, List.getElem_cons_zero, List.getElem_cons_succ, List.setIfInBounds_toArray, List.set_cons_zero, List.set_cons_succ]
              refine wpAnyH_take (i := 40) (v := ?_) rfl (by kernel_rfl) (by kernel_rfl) (by kernel_rfl) (fun _ _ _ h => h) (Or.inl ⟨by rfl, ?_⟩) (by assumption) ?_
              rotate_left
              · (intro w hSw; (try dsimp only at hSw); first | (go_simp; done) | (go_simp; with_reducible rfl))
              try simp only [Act.put, List.getElem_toArray, List.getElem_cons_zero, List.getElem_cons_succ, List.setIfInBounds_toArray, List.set_cons_zero, List.set_cons_succ]
              refine wpAnyH_take (i := 41) (v := ?_) rfl (by kernel_rfl) (by kernel_rfl) (by kernel_rfl) (fun _ _ _ h => h) (Or.inl ⟨by rfl, ?_⟩) (by assumption) ?_
              rotate_left
              · (intro w hSw; (try dsimp only at hSw); first | (go_simp; done) | (go_simp; with_reducible rfl))
              try simp only [Act.put, List.getElem_toArray, List.getElem_cons_zero, List.getElem_cons_succ, List.setIfInBounds_toArray, List.set_cons_zero, List.set_cons_succ]
              refine wpAnyH_take (i := 42) (v := ?_) rfl (by kernel_rfl) (by kernel_rfl) (by kernel_rfl) (fun _ _ _ h => h) (Or.inl ⟨by rfl, ?_⟩) (by assumption) ?_
              rotate_left
              · (intro w hSw; (try dsimp only at hSw); first | (go_simp; done) | (go_simp; with_reducible rfl))
              try simp only [Act.put, List.getElem_toArray, List.getElem_cons_zero, List.getElem_cons_succ, List.setIfInBounds_toArray, List.set_cons_zero, List.set_cons_succ]
              refine wpAnyH_ready (rs := [43]) (by kernel_rfl) (by simp) ?_
              refine AllReadyH.cons rfl (fun K hK => ?_) AllReadyH.nil
              go_simp
              go_at_call 26
              with_reducible refine (HS3.out m1 m2).mono ?_
              rintro e wz ⟨rfl, hbz⟩
              refine hK.out _ _ (hqF _ _ _ hbz) (fun hHeld => ?_)
              clear hK K
              try simp only [Act.put, List.getElem_toArray, List.getElem_cons_zero, List.getElem_cons_succ, List.setIfInBounds_toArray, List.set_cons_zero, List.set_cons_succ]
              refine wpAnyH_take (i := 44) (v := ?_) rfl (by kernel_rfl) (by kernel_rfl) (by kernel_rfl) (fun _ _ _ h => h) (Or.inl ⟨by rfl, ?_⟩) (by assumption) ?_
              rotate_left
              · (intro w hSw; (try dsimp only at hSw); first | (go_simp; done) | (go_simp; with_reducible rfl))
              try simp only [Act.put, List.getElem_toArray, List.getElem_cons_zero, List.getElem_cons_succ, List.setIfInBounds_toArray, List.set_cons_zero, List.set_cons_succ]
              refine wpAnyH_take (i := 45) (v := ?_) rfl (by kernel_rfl) (by kernel_rfl) (by kernel_rfl) (fun _ _ _ h => h) (Or.inl ⟨by rfl, ?_⟩) (by assumption) ?_
              rotate_left
              · (intro w hSw; (try dsimp only at hSw); first | (go_simp; done) | (go_simp; with_reducible rfl))
              try simp only [Act.put, List.getElem_toArray, List.getElem_cons_zero, List.getElem_cons_succ, List.setIfInBounds_toArray, List.set_cons_zero, List.set_cons_succ]
              refine wpAnyH_done (by kernel_rfl) ?_ _
              have HRz := Lib.hid ((HR7.out.drewN (1 + m1 + m2)).below hbz)
              go_wp2_with fail
              go_roundw
              case rel => exact ⟨t + 1, s, cS j t j, some ⟨s, nm, 2, [cR t], pv⟩, by go_num, rfl, by omega, by omega, HRz, ⟨fun e => by omega, fun c h => by cases h; exact Int.le_refl _⟩⟩
              case measure => first | (simp [intOf]; omega) | (have h9 := HTt.out; simp [intOf]; omega)
        · have HLn := Lib.hid (r_leave_no HR.out (v := s) (Or.inl (show s ≤ vw from by omega)))
          have HPn := Lib.hid (show (t' + 1 + 1 = 0 → S = Sx.new n ∧ pr = none) ∧ ∀ c, pr = some c → c.vw ≤ vw from ⟨fun e => by omega, HPr.out.2⟩)
          go_wp2_with fail
          refine (HW1.out _).mono ?_
          rintro e wq ⟨rfl, rfl⟩
          clear hc1
          go_wp2_with fail
          refine HLn.out.mono ?_
          rintro e wq ⟨rfl, rfl⟩
          go_wp2_with fail
          rw [← HT.out]
          go_roundw
          case rel => exact ⟨t' + 1 + 1, vw, S, pr, by go_num, rfl, by omega, by omega, HR, HPn⟩
          case measure => simp [intOf]; omega
    · have hgo : (¬ (t : Int) ≤ (m0 : Int)) ∨ ((t : Int) ≤ (m0 : Int) ∧ ¬ (t : Int) < 20) := by omega
      rcases hgo with g1 | ⟨g1, g2'⟩
      · clear hlt
        go_wp2_with fail
        refine (wakes15_any _).mono ?_
        rintro e w4 ⟨rfl, hb4⟩
        go_wp2_with fail
        go_ret
        exact ⟨rfl, HR.out.low.trans (hb4.mono HR.out.low.size)⟩
      · clear hlt
        go_wp2_with fail
        refine (wakes15_any _).mono ?_
        rintro e w4 ⟨rfl, hb4⟩
        go_wp2_with fail
        go_ret
        exact ⟨rfl, HR.out.low.trans (hb4.mono HR.out.low.size)⟩
end Go.Proofs.Ytpdmflhbmimhgaa
