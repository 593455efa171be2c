/- The contract of msgs.Seal. -/
import Derived.Test.YtbegjadohamkkaaGreatOMsgBody
import Derived.Test.YtbegjadohamkkaaGreatOS5
import Derived.Test.YtbegjadohamkkaaGreatOS1
import Derived.Test.YtbegjadohamkkaaGreatOS0
import Derived.Test.YtbegjadohamkkaaGreatOMsgFill
import Derived.Test.YtbegjadohamkkaaGreatOMsgKeep
import Derived.Test.YtbegjadohamkkaaGreatORefParts6
import Derived.Test.YtbegjadohamkkaaGreatOMsgParse
import Derived.Lib.QuietBelow
import Derived.Deep.RegionHeld3
namespace Go.Proofs.YtbegjadohamkkaaGreat
open Go.RowKit

/-- What a message's seal is given for. -/
def deedM (m : Mg) (bs : List Int) : Deed := (m.fr, strOfNums bs)
/-- What Seal does and answers. -/
def SealPost (m : Mg) (l : List Deed) (nb bm : Nat) (w : World) (e : Ending) (w' : World) : Prop :=
  (bodyM m = none ∧ e = .returned (.tuple #[.slice none 0 0, .bool false]) ∧ Below w.heap.size w w') ∨
  (∃ bs, bodyM m = some bs ∧ Nt w' nb bm (sealed l (deedM m bs)) ∧ Turn (fun k => k = bm) w w' ∧
    ((∃ es A c, envS (sealS l (deedM m bs)) bs = some es ∧ e = .returned (.tuple #[.slice A es.length c, .bool true]) ∧ w'.ownsRow w.heap.size 5 1 (.slice A es.length c) es.length (u8s es)) ∨
      (envS (sealS l (deedM m bs)) bs = none ∧ e = .returned (.tuple #[.slice none 0 0, .bool false]))))
set_option maxHeartbeats 4000000 in
set_option maxRecDepth 100000 in
theorem mseal_any (x : Ms) {w : World} (h : x.In w w.heap.size) (hsz : 6 * x.m.toks.length ≤ 70368744177664) (hfr : fit x.m.fr) {nb bm : Nat} {l : List Deed} (hN : Nt w nb bm l) (hlen : l.length ≤ 1000000) :
    Calls Tryz.prog 16 #[.agg #[.int .i64 x.m.kd, .int .i64 x.m.fr, .int .i64 x.m.vw, .int .i64 x.m.ins, .int .i64 x.m.sq, .int .i64 x.m.rs, .slice x.A1 x.m.bt.length x.c1, .slice x.A2 x.m.vs.length x.c2, .slice x.A3 x.m.cs.length x.c3, .slice x.A4 x.m.ps.length x.c4], .pointer (some ⟨nb, 0, none⟩)] w (SealPost x.m l nb bm w) := by
  have hb1 : Below w.heap.size w (w.alloc (.cells #[.int .i64 x.m.kd, .int .i64 x.m.fr, .int .i64 x.m.vw, .int .i64 x.m.ins, .int .i64 x.m.sq, .int .i64 x.m.rs, .slice x.A1 x.m.bt.length x.c1, .slice x.A2 x.m.vs.length x.c2, .slice x.A3 x.m.cs.length x.c3, .slice x.A4 x.m.ps.length x.c4] 38)) := (Below.refl _ w).alloc (Nat.le_refl _) _
  have HB1 := Lib.hid hb1
  have HBl := Lib.hid (Blk.new w 38 #[.int .i64 x.m.kd, .int .i64 x.m.fr, .int .i64 x.m.vw, .int .i64 x.m.ins, .int .i64 x.m.sq, .int .i64 x.m.rs, .slice x.A1 x.m.bt.length x.c1, .slice x.A2 x.m.vs.length x.c2, .slice x.A3 x.m.cs.length x.c3, .slice x.A4 x.m.ps.length x.c4])
  have HI := Lib.hid ((h.reads (Reads.below hb1 (Nat.le_refl _))).reads (Reads.more hb1.size))
  have HN := Lib.hid (hN.below hb1)
  have HL := Lib.hid hN.lt
  clear h hN hb1
  go_enter Tryz.func16, Tryz.ntmps16
  go_wp2_with fail
  obtain ⟨w1, hw1⟩ : ∃ w1, (w.alloc (.cells #[.int .i64 x.m.kd, .int .i64 x.m.fr, .int .i64 x.m.vw, .int .i64 x.m.ins, .int .i64 x.m.sq, .int .i64 x.m.rs, .slice x.A1 x.m.bt.length x.c1, .slice x.A2 x.m.vs.length x.c2, .slice x.A3 x.m.cs.length x.c3, .slice x.A4 x.m.ps.length x.c4] 38)) = w1 := ⟨_, rfl⟩
  rw [hw1] at HB1 HBl HI HN ⊢
  clear hw1
  refine (body_any x w1 HI.out hsz).mono ?_
  rintro e w2 ⟨hb2, ⟨bs, A, c, hbs, rfl, ho⟩ | ⟨hbs, rfl⟩⟩
  · have HB2 := Lib.hid hb2
    have HBS := Lib.hid hbs
    have HO := Lib.hid ho
    obtain ⟨n, hn⟩ : ∃ n, bs.length = n := ⟨_, rfl⟩
    have hn1 : n ≤ 65536 := by rw [← hn]; exact bodyM_len hbs
    rw [hn] at HO ⊢
    have HNn := Lib.hid hn
    have d1 := (HBl.out.below hb2 HBl.out.lt).cell 1
    simp only [List.getElem?_toArray, List.getElem?_cons_zero, List.getElem?_cons_succ] at d1
    clear hb2 hbs ho hn
    go_wp2_with fail
    refine (seal_any (HN.out.below HB2.out) hlen hfr (Has.own HO.out) HNn.out (by unfold maxLen; omega)).mono ?_
    rintro e w3 ⟨rfl, hnt, ht⟩
    have ho3 := ht.own HO.out (fun g hg => by
      have h1 := (HO.out.lt g hg).1
      have h2 := HL.out.2
      have h3 := HB1.out.size
      omega)
    have HT := Lib.hid ((((Turn.of_below (Z := fun k => k = bm) HB1.out).trans (Turn.of_below HB2.out))).trans ht)
    have HN3 := Lib.hid hnt
    have HO3 := Lib.hid ho3
    obtain ⟨sl, hsl⟩ : ∃ sl, sealS l (x.m.fr, strOfNums bs) = sl := ⟨_, rfl⟩
    rw [hsl]
    have HSl := Lib.hid hsl
    clear hnt ht ho3 hsl d1
    go_wp2_with fail
    refine (envelope_any sl HNn.out (by omega) _ (Has.own HO3.out) (gr_none HO3.out)).mono ?_
    rintro e w4 ⟨hb4, ⟨es, A4, c4, hes, rfl, ho4⟩ | ⟨hes, rfl⟩⟩
    · have HT4 := Lib.hid (HT.out.trans (Turn.of_below hb4))
      have HN4 := Lib.hid (HN3.out.below hb4)
      have HE := Lib.hid hes
      have hle : w.heap.size ≤ w3.heap.size := HT.out.size
      have HO4 := Lib.hid (own_down ho4 hle)
      clear hb4 hes ho4 hle
      go_wp2_with fail
      go_ret2
      refine Or.inr ⟨bs, HBS.out, HN4.out, HT4.out, ?_⟩
      unfold deedM
      rw [HSl.out]
      exact Or.inl ⟨es, A4, c4, HE.out, rfl, HO4.out⟩
    · have HT4 := Lib.hid (HT.out.trans (Turn.of_below hb4))
      have HN4 := Lib.hid (HN3.out.below hb4)
      have HE := Lib.hid hes
      clear hb4 hes
      go_wp2_with fail
      go_ret2
      refine Or.inr ⟨bs, HBS.out, HN4.out, HT4.out, ?_⟩
      unfold deedM
      rw [HSl.out]
      exact Or.inr ⟨HE.out, rfl⟩
  · have HB2 := Lib.hid (HB1.out.trans (hb2.mono HB1.out.size))
    have HBS := Lib.hid hbs
    clear hb2 hbs
    go_wp2_with fail
    go_ret2
    exact Or.inl ⟨HBS.out, rfl, HB2.out⟩
end Go.Proofs.YtbegjadohamkkaaGreat
/- The contract of msgs.Form, where those of its two arms are known. -/
namespace Go.Proofs.YtbegjadohamkkaaGreat
open Go.RowKit Go.Sort

def inF (f : Int) : Bool := decide (1 ≤ f) && decide (f ≤ 4)
/-- Are the filled fields named? -/
def namedS (m : Mg) : Bool := bits .andNot .i64 (fillS m) (nameS m.kd) == 0
def isNodeS (n f : Int) : Bool := decide (0 ≤ n) && decide (n ≤ 3 * f + 1 - 1)
set_option maxHeartbeats 400000 in
set_option maxRecDepth 100000 in
theorem misnode (n : Int) {f : Int} (h2 : 1 ≤ f) (h3 : f ≤ 4) (w : World) : Calls Tryz.prog 90 #[.int .i64 n, .int .i64 f] w fun e w' => e = .returned (.bool (isNodeS n f)) ∧ w' = w := by
  have HN := Lib.hid (bnodes_any f)
  rw [nodesS_in h2 h3] at HN
  obtain ⟨t, ht⟩ : ∃ t, 3 * f + 1 = t := ⟨_, rfl⟩
  have ht1 : 4 ≤ t := by omega
  have ht2 : t ≤ 13 := by omega
  have HE := Lib.hid (show isNodeS n f = (decide (0 ≤ n) && decide (n ≤ t - 1)) by unfold isNodeS; rw [ht])
  rw [ht] at HN
  rw [HE.out]
  have HW := Lib.hid (mwithin n 0 (t - 1))
  obtain ⟨r, hr⟩ : ∃ r, (decide (0 ≤ n) && decide (n ≤ t - 1)) = r := ⟨_, rfl⟩
  rw [hr] at HW ⊢
  clear ht h2 h3 hr
  go_enter Tryz.func90, Tryz.ntmps90
  go_wp2_with fail
  refine (HN.out _).mono ?_
  rintro e w1 ⟨rfl, rfl⟩
  go_wp2_with fail
  refine (HW.out _).mono ?_
  rintro e w1 ⟨rfl, rfl⟩
  go_wp2_with fail
  go_ret
  exact ⟨rfl, rfl⟩
theorem blk_cells10 {w : World} {g t : Nat} {a0 a1 a2 a3 a4 a5 a6 a7 a8 a9 : Value} (h : Blk w g t #[a0, a1, a2, a3, a4, a5, a6, a7, a8, a9]) :
    (∀ d os, (grow (redrawn w d) os).cell? ⟨g, 0, none⟩ = some a0) ∧ (∀ d os, (grow (redrawn w d) os).cell? ⟨g, 1, none⟩ = some a1) ∧ (∀ d os, (grow (redrawn w d) os).cell? ⟨g, 2, none⟩ = some a2) ∧ (∀ d os, (grow (redrawn w d) os).cell? ⟨g, 3, none⟩ = some a3) ∧ (∀ d os, (grow (redrawn w d) os).cell? ⟨g, 4, none⟩ = some a4) ∧ (∀ d os, (grow (redrawn w d) os).cell? ⟨g, 5, none⟩ = some a5) ∧ (∀ d os, (grow (redrawn w d) os).cell? ⟨g, 6, none⟩ = some a6) ∧ (∀ d os, (grow (redrawn w d) os).cell? ⟨g, 7, none⟩ = some a7) ∧ (∀ d os, (grow (redrawn w d) os).cell? ⟨g, 8, none⟩ = some a8) ∧ (∀ d os, (grow (redrawn w d) os).cell? ⟨g, 9, none⟩ = some a9) :=
  ⟨cell_regrown (h.cell 0), cell_regrown (h.cell 1), cell_regrown (h.cell 2), cell_regrown (h.cell 3), cell_regrown (h.cell 4), cell_regrown (h.cell 5), cell_regrown (h.cell 6), cell_regrown (h.cell 7), cell_regrown (h.cell 8), cell_regrown (h.cell 9)⟩
/-- What Form tells, its arms' answers given. -/
def formW (m : Mg) (f : Int) (a b : Bool) : Bool := inF f && (namedS m && (if m.kd = 1 then a else isNodeS m.fr f && b))
set_option maxHeartbeats 4000000 in
theorem form_with (x : Ms) (f n : Int) (a b : Bool) (w : World)
    (HA : x.m.kd = 1 → inF f = true → ∀ w', Below w.heap.size w w' → Calls Tryz.prog 89 #[.agg #[.int .i64 x.m.kd, .int .i64 x.m.fr, .int .i64 x.m.vw, .int .i64 x.m.ins, .int .i64 x.m.sq, .int .i64 x.m.rs, .slice x.A1 x.m.bt.length x.c1, .slice x.A2 x.m.vs.length x.c2, .slice x.A3 x.m.cs.length x.c3, .slice x.A4 x.m.ps.length x.c4], .int .i64 n] w' fun e w2 => e = .returned (.bool a) ∧ Below w'.heap.size w' w2)
    (HC : x.m.kd ≠ 1 → inF f = true → ∀ w', Below w.heap.size w w' → Calls Tryz.prog 91 #[.agg #[.int .i64 x.m.kd, .int .i64 x.m.fr, .int .i64 x.m.vw, .int .i64 x.m.ins, .int .i64 x.m.sq, .int .i64 x.m.rs, .slice x.A1 x.m.bt.length x.c1, .slice x.A2 x.m.vs.length x.c2, .slice x.A3 x.m.cs.length x.c3, .slice x.A4 x.m.ps.length x.c4], .int .i64 f, .int .i64 n] w' fun e w2 => e = .returned (.bool b) ∧ Below w'.heap.size w' w2) :
    Calls Tryz.prog 29 #[.agg #[.int .i64 x.m.kd, .int .i64 x.m.fr, .int .i64 x.m.vw, .int .i64 x.m.ins, .int .i64 x.m.sq, .int .i64 x.m.rs, .slice x.A1 x.m.bt.length x.c1, .slice x.A2 x.m.vs.length x.c2, .slice x.A3 x.m.cs.length x.c3, .slice x.A4 x.m.ps.length x.c4], .int .i64 f, .int .i64 n] w fun e w' => e = .returned (.bool (formW x.m f a b)) ∧ Below w.heap.size w w' := by
  have hb1 : Below w.heap.size w (w.alloc (.cells #[.int .i64 x.m.kd, .int .i64 x.m.fr, .int .i64 x.m.vw, .int .i64 x.m.ins, .int .i64 x.m.sq, .int .i64 x.m.rs, .slice x.A1 x.m.bt.length x.c1, .slice x.A2 x.m.vs.length x.c2, .slice x.A3 x.m.cs.length x.c3, .slice x.A4 x.m.ps.length x.c4] 38)) := (Below.refl _ w).alloc (Nat.le_refl _) _
  have HB1 := Lib.hid hb1
  have HBl := Lib.hid (Blk.new w 38 #[.int .i64 x.m.kd, .int .i64 x.m.fr, .int .i64 x.m.vw, .int .i64 x.m.ins, .int .i64 x.m.sq, .int .i64 x.m.rs, .slice x.A1 x.m.bt.length x.c1, .slice x.A2 x.m.vs.length x.c2, .slice x.A3 x.m.cs.length x.c3, .slice x.A4 x.m.ps.length x.c4])
  have HAh := Lib.hid HA
  have HCh := Lib.hid HC
  have KW0 := Lib.hid (fun w => (mwithin f 1 4 w).mono (R' := fun e w' => e = .returned (.bool (inF f)) ∧ Below w.heap.size w w') (fun e w' h => ⟨h.1, by rw [h.2]; exact Below.refl _ _⟩))
  have KN0 := Lib.hid (fun w => (mnamed x.m.kd w).mono (R' := fun e w' => e = .returned (.int .i64 (nameS x.m.kd)) ∧ Below w.heap.size w w') (fun e w' h => ⟨h.1, by rw [h.2]; exact Below.refl _ _⟩))
  have KF0 := Lib.hid (fun w => mfilled x w)
  clear HA HC hb1
  cases hf : inF f
  case false =>
    have HE := Lib.hid (show formW x.m f a b = false by unfold formW; rw [hf]; rfl)
    rw [hf] at KW0
    rw [HE.out]
    clear hf HAh HCh
    go_enter Tryz.func29, Tryz.ntmps29
    go_wp2_with fail
    obtain ⟨w1, hw1⟩ : ∃ w1, (w.alloc (.cells #[.int .i64 x.m.kd, .int .i64 x.m.fr, .int .i64 x.m.vw, .int .i64 x.m.ins, .int .i64 x.m.sq, .int .i64 x.m.rs, .slice x.A1 x.m.bt.length x.c1, .slice x.A2 x.m.vs.length x.c2, .slice x.A3 x.m.cs.length x.c3, .slice x.A4 x.m.ps.length x.c4] 38)) = w1 := ⟨_, rfl⟩
    rw [hw1] at HB1 HBl ⊢
    clear hw1
    have KW := fun d os => Calls.regrown_of (KW0.out (grow (redrawn w1 d) os))
    have KF := fun d os => Calls.regrown_of (KF0.out (grow (redrawn w1 d) os))
    have KN := fun d os => Calls.regrown_of (KN0.out (grow (redrawn w1 d) os))
    obtain ⟨d0, d1, d2, d3, d4, d5, d6, d7, d8, d9⟩ := blk_cells10 HBl.out
    clear KF KN KF0 KN0 KW0 d0 d1 d2 d3 d4 d5 d6 d7 d8 d9
    refine wp_region_quiet_below (by kernel_rfl) (by kernel_rfl) ?_
    refine wq_out ?_
    refine wq_do (by kernel_rfl) (fun K hK => ?_)
    go_simp
    refine hK _ ?_
    clear hK K
    refine wq_do (by kernel_rfl) (fun K hK => ?_)
    go_simp
    apply Exists.intro
    refine ⟨fun a => ?_, hK _ ?_⟩
    · exact KW a.d a.os
    clear hK K
    iterate 2 (refine wq_do (by kernel_rfl) (fun K hK => ?_); go_simp; refine hK _ ?_; clear hK K)
    iterate 7 (refine wq_skip (by kernel_rfl) ?_)
    refine wq_do (by kernel_rfl) (fun K hK => ?_)
    go_simp
    refine hK _ ?_
    clear hK K
    refine wq_nil ?_
    intro _ hw'
    obtain ⟨⟨dq, osq⟩, hw''⟩ := hw'
    subst hw''
    have HB3 := Lib.hid (HB1.out.trans ((below_regrown w1 dq osq).mono HB1.out.size))
    clear KW
    go_wp2_with fail
    go_ret
    exact ⟨rfl, HB3.out⟩
  case true =>
    have hfr := hf
    have h12 : 1 ≤ f ∧ f ≤ 4 := by simpa [inF] using hf
    have HI := Lib.hid (fun w => misnode x.m.fr h12.1 h12.2 w)
    rw [hf] at KW0
    have HF := Lib.hid hf
    clear hf hfr h12
    obtain ⟨z1, hz1⟩ : ∃ z, fillS x.m = z := ⟨_, rfl⟩
    obtain ⟨z2, hz2⟩ : ∃ z, nameS x.m.kd = z := ⟨_, rfl⟩
    have HZ := Lib.hid (show namedS x.m = (bits .andNot .i64 z1 z2 == 0) by unfold namedS; rw [hz1, hz2])
    rw [hz1] at KF0
    rw [hz2] at KN0
    clear hz1 hz2
    obtain ⟨z, hz⟩ : ∃ z, bits .andNot .i64 z1 z2 = z := ⟨_, rfl⟩
    cases hnm : (z == 0)
    case false =>
      have t0 : (z != 0) = true := by rw [bne, hnm]; rfl
      have HNM := Lib.hid (show namedS x.m = false by rw [HZ.out, hz, hnm])
      clear HZ
      go_enter Tryz.func29, Tryz.ntmps29
      go_wp2_with fail
      obtain ⟨w1, hw1⟩ : ∃ w1, (w.alloc (.cells #[.int .i64 x.m.kd, .int .i64 x.m.fr, .int .i64 x.m.vw, .int .i64 x.m.ins, .int .i64 x.m.sq, .int .i64 x.m.rs, .slice x.A1 x.m.bt.length x.c1, .slice x.A2 x.m.vs.length x.c2, .slice x.A3 x.m.cs.length x.c3, .slice x.A4 x.m.ps.length x.c4] 38)) = w1 := ⟨_, rfl⟩
      rw [hw1] at HB1 HBl ⊢
      clear hw1
      have KW := fun d os => Calls.regrown_of (KW0.out (grow (redrawn w1 d) os))
      have KF := fun d os => Calls.regrown_of (KF0.out (grow (redrawn w1 d) os))
      have KN := fun d os => Calls.regrown_of (KN0.out (grow (redrawn w1 d) os))
      obtain ⟨d0, d1, d2, d3, d4, d5, d6, d7, d8, d9⟩ := blk_cells10 HBl.out
      clear KF0 KN0 KW0
      refine wp_region_quiet_below (by kernel_rfl) (by kernel_rfl) ?_
      refine wq_out ?_
      refine wq_do (by kernel_rfl) (fun K hK => ?_)
      go_simp
      refine hK _ ?_
      clear hK K
      refine wq_do (by kernel_rfl) (fun K hK => ?_)
      go_simp
      apply Exists.intro
      refine ⟨fun a => ?_, hK _ ?_⟩
      · exact KW a.d a.os
      clear hK K
      iterate 3 (refine wq_do (by kernel_rfl) (fun K hK => ?_); go_simp; refine hK _ ?_; clear hK K)
      refine wq_do (by kernel_rfl) (fun K hK => ?_)
      go_simp
      apply Exists.intro
      refine ⟨fun a => ?_, hK _ ?_⟩
      · exact KF a.d a.os
      clear hK K
      iterate 2 (refine wq_do (by kernel_rfl) (fun K hK => ?_); go_simp; refine hK _ ?_; clear hK K)
      refine wq_do (by kernel_rfl) (fun K hK => ?_)
      go_simp
      apply Exists.intro
      refine ⟨fun a => ?_, hK _ ?_⟩
      · exact KN a.d a.os
      clear hK K
      iterate 3 (refine wq_do (by kernel_rfl) (fun K hK => ?_); go_simp; refine hK _ ?_; clear hK K)
      refine wq_nil ?_
      intro _ hw'
      obtain ⟨⟨dq, osq⟩, hw''⟩ := hw'
      subst hw''
      have HB3 := Lib.hid (HB1.out.trans ((below_regrown w1 dq osq).mono HB1.out.size))
      have HBl3 := Lib.hid (HBl.out.below (below_regrown w1 dq osq) HBl.out.lt)
      clear KW KF KN
      clear d0 d1 d2 d3 d4 d5 d6 d7 d8 d9
      go_wp2_with fail
      go_ret
      exact ⟨by unfold formW; rw [HF.out, HNM.out]; rfl, HB3.out⟩
    case true =>
      have t0 : (z != 0) = false := by rw [bne, hnm]; rfl
      have HNM := Lib.hid (show namedS x.m = true by rw [HZ.out, hz, hnm])
      clear HZ
      go_enter Tryz.func29, Tryz.ntmps29
      go_wp2_with fail
      obtain ⟨w1, hw1⟩ : ∃ w1, (w.alloc (.cells #[.int .i64 x.m.kd, .int .i64 x.m.fr, .int .i64 x.m.vw, .int .i64 x.m.ins, .int .i64 x.m.sq, .int .i64 x.m.rs, .slice x.A1 x.m.bt.length x.c1, .slice x.A2 x.m.vs.length x.c2, .slice x.A3 x.m.cs.length x.c3, .slice x.A4 x.m.ps.length x.c4] 38)) = w1 := ⟨_, rfl⟩
      rw [hw1] at HB1 HBl ⊢
      clear hw1
      have KW := fun d os => Calls.regrown_of (KW0.out (grow (redrawn w1 d) os))
      have KF := fun d os => Calls.regrown_of (KF0.out (grow (redrawn w1 d) os))
      have KN := fun d os => Calls.regrown_of (KN0.out (grow (redrawn w1 d) os))
      obtain ⟨d0, d1, d2, d3, d4, d5, d6, d7, d8, d9⟩ := blk_cells10 HBl.out
      clear KF0 KN0 KW0
      refine wp_region_quiet_below (by kernel_rfl) (by kernel_rfl) ?_
      refine wq_out ?_
      refine wq_do (by kernel_rfl) (fun K hK => ?_)
      go_simp
      refine hK _ ?_
      clear hK K
      refine wq_do (by kernel_rfl) (fun K hK => ?_)
      go_simp
      apply Exists.intro
      refine ⟨fun a => ?_, hK _ ?_⟩
      · exact KW a.d a.os
      clear hK K
      iterate 3 (refine wq_do (by kernel_rfl) (fun K hK => ?_); go_simp; refine hK _ ?_; clear hK K)
      refine wq_do (by kernel_rfl) (fun K hK => ?_)
      go_simp
      apply Exists.intro
      refine ⟨fun a => ?_, hK _ ?_⟩
      · exact KF a.d a.os
      clear hK K
      iterate 2 (refine wq_do (by kernel_rfl) (fun K hK => ?_); go_simp; refine hK _ ?_; clear hK K)
      refine wq_do (by kernel_rfl) (fun K hK => ?_)
      go_simp
      apply Exists.intro
      refine ⟨fun a => ?_, hK _ ?_⟩
      · exact KN a.d a.os
      clear hK K
      iterate 3 (refine wq_do (by kernel_rfl) (fun K hK => ?_); go_simp; refine hK _ ?_; clear hK K)
      refine wq_nil ?_
      intro _ hw'
      obtain ⟨⟨dq, osq⟩, hw''⟩ := hw'
      subst hw''
      have HB3 := Lib.hid (HB1.out.trans ((below_regrown w1 dq osq).mono HB1.out.size))
      have HBl3 := Lib.hid (HBl.out.below (below_regrown w1 dq osq) HBl.out.lt)
      clear KW KF KN
      have HE := Lib.hid (show formW x.m f a b = (if x.m.kd = 1 then a else isNodeS x.m.fr f && b) by unfold formW; rw [HF.out, HNM.out]; rfl)
      obtain ⟨w3, hw3⟩ : ∃ w3, grow (redrawn w1 dq) osq = w3 := ⟨_, rfl⟩
      rw [hw3] at HB3 HBl3 ⊢
      have e0 := HBl3.out.cell 0
      have e1 := HBl3.out.cell 1
      have e2 := HBl3.out.cell 2
      have e3 := HBl3.out.cell 3
      have e4 := HBl3.out.cell 4
      have e5 := HBl3.out.cell 5
      have e6 := HBl3.out.cell 6
      have e7 := HBl3.out.cell 7
      have e8 := HBl3.out.cell 8
      have e9 := HBl3.out.cell 9
      simp only [List.getElem?_toArray, List.getElem?_cons_zero, List.getElem?_cons_succ] at e0 e1 e2 e3 e4 e5 e6 e7 e8 e9
      clear hw3 d0 d1 d2 d3 d4 d5 d6 d7 d8 d9
      by_cases hk : x.m.kd = 1
      · have t1 : (x.m.kd == 1) = true := by simp [hk]
        have HR := Lib.hid (HAh.out hk HF.out)
        have HEE := Lib.hid (HE.out.trans (if_pos hk))
        clear hk HAh HCh
        go_wp2_with fail
        refine (HR.out _ HB3.out).mono ?_
        rintro e w4 ⟨rfl, hb4⟩
        go_wp2_with fail
        go_ret
        exact ⟨by rw [HEE.out]; rfl, HB3.out.trans (hb4.mono HB3.out.size)⟩
      · have t1 : (x.m.kd == 1) = false := by simp [hk]
        have HR := Lib.hid (HCh.out hk HF.out)
        have HEE := Lib.hid (HE.out.trans (if_neg hk))
        clear hk HAh HCh
        cases hi : isNodeS x.m.fr f
        · rw [hi] at HI HEE
          clear hi
          go_wp2_with fail
          refine (HI.out _).mono ?_
          rintro e w4 ⟨rfl, rfl⟩
          go_wp2_with fail
          go_ret
          exact ⟨by rw [HEE.out]; rfl, HB3.out⟩
        · rw [hi] at HI HEE
          clear hi
          go_wp2_with fail
          refine (HI.out _).mono ?_
          rintro e w4 ⟨rfl, rfl⟩
          go_wp2_with fail
          refine (HR.out _ HB3.out).mono ?_
          rintro e w4 ⟨rfl, hb4⟩
          go_wp2_with fail
          go_ret
          exact ⟨by rw [HEE.out]; rfl, HB3.out.trans (hb4.mono HB3.out.size)⟩
end Go.Proofs.YtbegjadohamkkaaGreat
/- Rows of messages that came in. -/
namespace Go.Proofs.YtbegjadohamkkaaGreat
open Go.RowKit Go.ChangeShapes Go.WideShapes Go.Deep

def Ms.cells (x : Ms) : List Value := x.vals.toList
end Go.Proofs.YtbegjadohamkkaaGreat
/- The contract of msgs.Form at votes to leave a view. -/
namespace Go.Proofs.YtbegjadohamkkaaGreat
open Go.RowKit

set_option maxHeartbeats 1000000 in
theorem nodeform6 (x : Ms) (hk : x.m.kd = 6) (f n : Int) (w : World) :
    Calls Tryz.prog 91 #[.agg #[.int .i64 x.m.kd, .int .i64 x.m.fr, .int .i64 x.m.vw, .int .i64 x.m.ins, .int .i64 x.m.sq, .int .i64 x.m.rs, .slice x.A1 x.m.bt.length x.c1, .slice x.A2 x.m.vs.length x.c2, .slice x.A3 x.m.cs.length x.c3, .slice x.A4 x.m.ps.length x.c4], .int .i64 f, .int .i64 n] w
      fun e w' => e = .returned (.bool (decide (0 ≤ x.m.vw) && decide (x.m.vw ≤ 11))) ∧ Below w.heap.size w w' := by
  rw [hk]
  have HB := Lib.hid (fun cs => show Below w.heap.size w (w.alloc (.cells cs 38)) from (Below.refl _ w).alloc (Nat.le_refl _) _)
  have HW := Lib.hid (mwithin x.m.vw 0 11)
  obtain ⟨r, hr⟩ : ∃ r, (decide (0 ≤ x.m.vw) && decide (x.m.vw ≤ 11)) = r := ⟨_, rfl⟩
  rw [hr] at HW ⊢
  clear hk hr
  go_enter Tryz.func91, Tryz.ntmps91
  go_wp2_with fail
  refine (HW.out _).mono ?_
  rintro e w1 ⟨rfl, rfl⟩
  go_wp2_with fail
  go_ret
  exact ⟨rfl, HB.out _⟩
end Go.Proofs.YtbegjadohamkkaaGreat
/- The contract of keep.Heavy: has a message more than is played? -/
namespace Go.Proofs.YtbegjadohamkkaaGreat
open Go.RowKit

def lightP (p : Pt) : Bool := decide (p.vs.length ≤ 30) && !heavyC p.cs
def heavyM (m : Mg) : Bool := !(decide (m.bt.length ≤ 12 ∧ m.vs.length ≤ 30 ∧ m.ps.length ≤ 12) && !heavyC m.cs && m.ps.all lightP)
theorem heavyM_len {m : Mg} (h : ¬ (m.bt.length ≤ 12 ∧ m.vs.length ≤ 30 ∧ m.ps.length ≤ 12)) : heavyM m = true := by simp only [heavyM, decide_eq_false h, Bool.false_and]; rfl
theorem heavyM_certs {m : Mg} (h : heavyC m.cs = true) : heavyM m = true := by simp [heavyM, h]
theorem heavyM_part {m : Mg} {k : Nat} (hk : k < m.ps.length) (h : lightP m.ps[k] = false) : heavyM m = true := by
  have : m.ps.all lightP = false := by
    rw [List.all_eq_false]
    exact ⟨m.ps[k], List.getElem_mem hk, by simp [h]⟩
  simp [heavyM, this]
theorem heavyM_no {m : Mg} (h1 : m.bt.length ≤ 12 ∧ m.vs.length ≤ 30 ∧ m.ps.length ≤ 12) (h2 : heavyC m.cs = false) (h3 : (m.ps.take m.ps.length).all lightP = true) : heavyM m = false := by
  rw [List.take_length] at h3
  simp [heavyM, h1, h2, h3]
theorem light_msg {m : Mg} (h : heavyM m = false) : m.bt.length ≤ 12 ∧ m.vs.length ≤ 30 ∧ m.ps.length ≤ 12 ∧ heavyC m.cs = false ∧ ∀ q ∈ m.ps, q.vs.length ≤ 30 ∧ heavyC q.cs = false := by
  simp only [heavyM, Bool.not_eq_false', Bool.and_eq_true, decide_eq_true_eq, List.all_eq_true, Bool.not_eq_true'] at h
  refine ⟨h.1.1.1, h.1.1.2.1, h.1.1.2.2, h.1.2, fun q hq => ?_⟩
  have := h.2 q hq
  simpa [lightP] using this
set_option maxHeartbeats 4000000 in
set_option maxRecDepth 100000 in
theorem heavy_un (m : Mg) (A1 A2 A3 A4 : Option Addr) (c1 c2 c3 c4 : Nat) (w : World) (h : (Ms.mk m A1 c1 A2 c2 A3 c3 A4 c4).In w w.heap.size) :
    Calls Tryz.prog 30 #[.agg #[.int .i64 m.kd, .int .i64 m.fr, .int .i64 m.vw, .int .i64 m.ins, .int .i64 m.sq, .int .i64 m.rs, .slice A1 m.bt.length c1, .slice A2 m.vs.length c2, .slice A3 m.cs.length c3, .slice A4 m.ps.length c4]] w fun e w' => e = .returned (.bool (heavyM m)) ∧ Below w.heap.size w w' := by
  obtain ⟨_, _, h3, h4⟩ := h
  have hb1 : Below w.heap.size w (w.alloc (.cells #[.int .i64 m.kd, .int .i64 m.fr, .int .i64 m.vw, .int .i64 m.ins, .int .i64 m.sq, .int .i64 m.rs, .slice A1 m.bt.length c1, .slice A2 m.vs.length c2, .slice A3 m.cs.length c3, .slice A4 m.ps.length c4] 38)) := (Below.refl _ w).alloc (Nat.le_refl _) _
  have HB := Lib.hid hb1
  have HI := Lib.hid (h4.reads (Reads.below hb1 (Nat.le_refl _)))
  have HI3 := Lib.hid ((h3.reads (Reads.below hb1 (Nat.le_refl _))).reads (Reads.more hb1.size))
  have HC := Lib.hid (fun w h => heavy_certs A3 c3 m.cs (B := w.heap.size) w h)
  clear h3 h4 hb1
  by_cases h1 : 12 < m.bt.length
  case pos =>
    have HE := Lib.hid (heavyM_len (m := m) (by omega))
    go_enter Tryz.func30, Tryz.ntmps30
    go_wp2_with fail
    go_ret
    exact ⟨by rw [HE.out]; rfl, HB.out⟩
  have h1' : m.bt.length ≤ 12 := by omega
  clear h1
  by_cases h2 : 30 < m.vs.length
  case pos =>
    have HE := Lib.hid (heavyM_len (m := m) (by omega))
    go_enter Tryz.func30, Tryz.ntmps30
    go_wp2_with fail
    go_ret
    exact ⟨by rw [HE.out]; rfl, HB.out⟩
  have h2' : m.vs.length ≤ 30 := by omega
  clear h2
  cases hc : heavyC m.cs
  case true =>
    have HE := Lib.hid (heavyM_certs hc)
    rw [hc] at HC
    clear hc
    go_enter Tryz.func30, Tryz.ntmps30
    go_wp2_with fail
    refine (HC.out _ HI3.out).mono ?_
    rintro e w1 ⟨rfl, rfl⟩
    go_wp2_with fail
    go_ret
    exact ⟨by rw [HE.out]; rfl, HB.out⟩
  rw [hc] at HC
  have HCc := Lib.hid hc
  clear hc
  by_cases h3 : 12 < m.ps.length
  case pos =>
    have HE := Lib.hid (heavyM_len (m := m) (by omega))
    go_enter Tryz.func30, Tryz.ntmps30
    go_wp2_with fail
    refine (HC.out _ HI3.out).mono ?_
    rintro e w1 ⟨rfl, rfl⟩
    go_wp2_with fail
    go_ret
    exact ⟨by rw [HE.out]; rfl, HB.out⟩
  have h3' : m.ps.length ≤ 12 := by omega
  have HBl := Lib.hid (Blk.new w 38 #[.int .i64 m.kd, .int .i64 m.fr, .int .i64 m.vw, .int .i64 m.ins, .int .i64 m.sq, .int .i64 m.rs, .slice A1 m.bt.length c1, .slice A2 m.vs.length c2, .slice A3 m.cs.length c3, .slice A4 m.ps.length c4])
  clear h3
  go_enter Tryz.func30, Tryz.ntmps30
  go_wp2_with fail
  refine (HC.out _ HI3.out).mono ?_
  rintro e w1 ⟨rfl, rfl⟩
  go_wp2_with fail
  obtain ⟨w1, hw1⟩ : ∃ w1, (w.alloc (.cells #[.int .i64 m.kd, .int .i64 m.fr, .int .i64 m.vw, .int .i64 m.ins, .int .i64 m.sq, .int .i64 m.rs, .slice A1 m.bt.length c1, .slice A2 m.vs.length c2, .slice A3 m.cs.length c3, .slice A4 m.ps.length c4] 38)) = w1 := ⟨_, rfl⟩
  rw [hw1] at HB HI HBl ⊢
  have c9 : w1.cell? ⟨w.heap.size, 9, none⟩ = some (.slice A4 m.ps.length c4) := HBl.out.cell 9
  clear hw1 HC HI3
  go_loop [3] (fun v => ∃ k : Nat, v = .int .i64 k ∧ k ≤ m.ps.length ∧ Hid ((m.ps.take k).all lightP = true)) (fun v => m.ps.length - (intOf v).toNat)
  case atStart => exact ⟨0, rfl, Nat.zero_le _, rfl⟩
  case round =>
    obtain ⟨k, rfl, hk, HT⟩ := hrel
    by_cases hlt : k < m.ps.length
    · obtain ⟨ad, y, rfl, _, hy, iy, e0, e1, e2, e3⟩ := HI.out.at hlt
      have HY := Lib.hid hy
      have HIy := Lib.hid (iy.cs)
      clear hy iy
      by_cases h4 : 30 < y.p.vs.length
      · have HE := Lib.hid (heavyM_part hlt (by rw [← HY.out]; simp [lightP]; omega))
        go_wp2_with fail
        go_ret
        exact ⟨by rw [HE.out]; rfl, HB.out⟩
      · have h4' : y.p.vs.length ≤ 30 := by omega
        clear h4
        have HC2 := Lib.hid (fun w h => heavy_certs y.A2 y.c2 y.p.cs (B := w.heap.size) w h)
        have HI2 := Lib.hid (HIy.out.reads (Reads.more HB.out.size))
        cases hc2 : heavyC y.p.cs
        · rw [hc2] at HC2
          have HE := Lib.hid (show (m.ps.take (k + 1)).all lightP = true by rw [all_next (List.getElem?_eq_getElem hlt), HT.out, ← HY.out]; simp [lightP, hc2, h4'])
          clear hc2
          go_wp2_with fail
          refine (HC2.out _ HI2.out).mono ?_
          rintro e w2 ⟨rfl, rfl⟩
          go_wp2_with fail
          go_round
          case rel => exact ⟨k + 1, by go_num, by omega, HE.out⟩
          case measure => simp [intOf]; omega
        · rw [hc2] at HC2
          have HE := Lib.hid (heavyM_part hlt (by rw [← HY.out]; simp [lightP, hc2]))
          clear hc2
          go_wp2_with fail
          refine (HC2.out _ HI2.out).mono ?_
          rintro e w2 ⟨rfl, rfl⟩
          go_wp2_with fail
          go_ret
          exact ⟨by rw [HE.out]; rfl, HB.out⟩
    · have HE := Lib.hid (heavyM_no ⟨h1', h2', h3'⟩ HCc.out (by rw [← show k = m.ps.length by omega]; exact HT.out))
      go_wp2_with fail
      go_ret
      exact ⟨by rw [HE.out]; rfl, HB.out⟩
theorem heavy_msg (x : Ms) (w : World) (h : x.In w w.heap.size) :
    Calls Tryz.prog 30 #[.agg #[.int .i64 x.m.kd, .int .i64 x.m.fr, .int .i64 x.m.vw, .int .i64 x.m.ins, .int .i64 x.m.sq, .int .i64 x.m.rs, .slice x.A1 x.m.bt.length x.c1, .slice x.A2 x.m.vs.length x.c2, .slice x.A3 x.m.cs.length x.c3, .slice x.A4 x.m.ps.length x.c4]] w fun e w' => e = .returned (.bool (heavyM x.m)) ∧ Below w.heap.size w w' := heavy_un x.m x.A1 x.A2 x.A3 x.A4 x.c1 x.c2 x.c3 x.c4 w h
end Go.Proofs.YtbegjadohamkkaaGreat
/- The contracts of package msgs' smaller forms: isSeal, placed, single, batchForm, votesForm, certForm, behind. -/
namespace Go.Proofs.YtbegjadohamkkaaGreat
open Go.RowKit

set_option maxHeartbeats 400000 in
theorem misseal (n : Int) (w : World) : Calls Tryz.prog 168 #[.int .i64 n] w fun e w' => e = .returned (.bool (decide (0 ≤ n ∧ n < 1099511627776))) ∧ w' = w := by
  have HE := Lib.hid (show decide (0 ≤ n ∧ n < 1099511627776) = (decide (0 ≤ n) && decide (n ≤ 1099511627775)) by rw [Bool.eq_iff_iff]; simp; omega)
  rw [HE.out]
  have HW := Lib.hid (fun w => mwithin n 0 1099511627775 w)
  obtain ⟨r, hr⟩ : ∃ r, (decide (0 ≤ n) && decide (n ≤ 1099511627775)) = r := ⟨_, rfl⟩
  rw [hr] at HW ⊢
  clear hr HE
  go_enter Tryz.func168, Tryz.ntmps168
  go_wp2_with fail
  refine (HW.out _).mono ?_
  rintro e w1 ⟨rfl, rfl⟩
  go_wp2_with fail
  go_ret
  exact ⟨rfl, rfl⟩
set_option maxHeartbeats 1000000 in
theorem mplaced (v i s f : Int) (w : World) : Calls Tryz.prog 62 #[.int .i64 v, .int .i64 i, .int .i64 s, .int .i64 f] w fun e w' => e = .returned (.bool (spotS v i s f)) ∧ w' = w := by
  have HE := Lib.hid (show spotS v i s f = (((decide (0 ≤ v) && decide (v ≤ 12)) && (decide (0 ≤ i) && decide (i ≤ f))) && (decide (1 ≤ s) && decide (s ≤ 16))) by rw [Bool.eq_iff_iff]; simp [spotS]; omega)
  rw [HE.out]
  have H1 := Lib.hid (fun w => mwithin v 0 12 w)
  have H2 := Lib.hid (fun w => mwithin i 0 f w)
  have H3 := Lib.hid (fun w => mwithin s 1 16 w)
  obtain ⟨r1, hr1⟩ : ∃ r, (decide (0 ≤ v) && decide (v ≤ 12)) = r := ⟨_, rfl⟩
  obtain ⟨r2, hr2⟩ : ∃ r, (decide (0 ≤ i) && decide (i ≤ f)) = r := ⟨_, rfl⟩
  obtain ⟨r3, hr3⟩ : ∃ r, (decide (1 ≤ s) && decide (s ≤ 16)) = r := ⟨_, rfl⟩
  rw [hr1] at H1 ⊢
  rw [hr2] at H2 ⊢
  rw [hr3] at H3 ⊢
  clear hr1 hr2 hr3 HE
  cases r1
  · go_enter Tryz.func62, Tryz.ntmps62
    go_wp2_with fail
    refine (H1.out _).mono ?_
    rintro e w1 ⟨rfl, rfl⟩
    go_wp2_with fail
    go_ret
    exact ⟨rfl, rfl⟩
  · cases r2
    · go_enter Tryz.func62, Tryz.ntmps62
      go_wp2_with fail
      refine (H1.out _).mono ?_
      rintro e w1 ⟨rfl, rfl⟩
      go_wp2_with fail
      refine (H2.out _).mono ?_
      rintro e w1 ⟨rfl, rfl⟩
      go_wp2_with fail
      go_ret
      exact ⟨rfl, rfl⟩
    · go_enter Tryz.func62, Tryz.ntmps62
      go_wp2_with fail
      refine (H1.out _).mono ?_
      rintro e w1 ⟨rfl, rfl⟩
      go_wp2_with fail
      refine (H2.out _).mono ?_
      rintro e w1 ⟨rfl, rfl⟩
      go_wp2_with fail
      refine (H3.out _).mono ?_
      rintro e w1 ⟨rfl, rfl⟩
      go_wp2_with fail
      go_ret
      exact ⟨by simp, rfl⟩
/-- One request, and it is right. -/
def oneS (l : List Rq) (n : Int) : Bool := match l with | [r] => validS r n | _ => false
theorem oneS_is {l : List Rq} {x : Rq} {n : Int} (h : l.length = 1) (hx : l[0]? = some x) : oneS l n = validS x n := by
  match l, h with
  | [r], _ => cases hx; rfl
theorem oneS_no {l : List Rq} {n : Int} (h : l.length ≠ 1) : oneS l n = false := by
  match l, h with
  | [], _ => rfl
  | [_], h => exact absurd rfl h
  | _ :: _ :: _, _ => rfl
set_option maxHeartbeats 1000000 in
set_option maxRecDepth 100000 in
theorem msingle {w : World} {A : Option Addr} {c B : Nat} {l : List Rq} (hh : Has w B A (reqCells l)) (n : Int) :
    Calls Tryz.prog 130 #[.slice A l.length c, .int .i64 n] w fun e w' => e = .returned (.bool (oneS l n)) ∧ Below w.heap.size w w' := by
  by_cases h1 : l.length = 1
  · have hlt : 0 < l.length := by omega
    obtain ⟨a1, rfl, _, c0, c1, c2, c3, c4, c5⟩ := hh.req hlt
    have HE := Lib.hid (oneS_is (n := n) h1 (List.getElem?_eq_getElem hlt))
    obtain ⟨x, hx⟩ : ∃ x, l[0] = x := ⟨_, rfl⟩
    rw [hx] at c0 c1 c2 c3 c4 c5 HE
    have HP := Lib.hid (fun w => rq_valid x n w)
    rw [HE.out]
    have t0 : ((l.length : Int) == 1) = true := by simp [h1]
    have t1 : (0 : Int) < (l.length : Int) := by omega
    have e0 : a1.add (0 * 6) = a1 := rfl
    rw [e0] at c0 c1 c2 c3 c4 c5
    clear hx hh HE
    go_enter Tryz.func130, Tryz.ntmps130
    go_wp2_with fail
    refine (HP.out _).mono ?_
    rintro e w2 ⟨rfl, hb2⟩
    go_wp2_with fail
    go_ret
    exact ⟨rfl, hb2⟩
  · have HE := Lib.hid (oneS_no (n := n) h1)
    rw [HE.out]
    have t0 : ((l.length : Int) == 1) = false := by rw [beq_eq_false_iff_ne]; omega
    clear h1 hh
    go_enter Tryz.func130, Tryz.ntmps130
    go_wp2_with fail
    go_ret
    exact ⟨rfl, Below.refl _ _⟩
set_option maxHeartbeats 1000000 in
set_option maxRecDepth 100000 in
theorem mvalid1 (r : Rq) (n : Int) (p : Addr) (w : World) (hp : w.cell? p = some (.int .i64 n)) (hb : p.block < w.heap.size) :
    Calls Tryz.prog 184 #[.agg #[.int .i64 r.cl, .int .i64 r.tm, .int .i64 r.kd, .int .i64 r.ky, .int .i64 r.vl, .int .i64 r.sg], .pointer (some p)] w fun e w' => e = .returned (.bool (validS r n)) ∧ Below w.heap.size w w' := by
  have HB := Lib.hid (fun cs => show Below w.heap.size w (w.alloc (.cells cs 69)) from (Below.refl _ w).alloc (Nat.le_refl _) _)
  have HP := Lib.hid (fun w => rq_valid r n w)
  have d0 := fun cs => ((HB.out cs).cell hb).trans hp
  clear hp hb
  go_enter Tryz.func184, Tryz.ntmps184
  go_wp2_with fail
  refine (HP.out _).mono ?_
  rintro e w2 ⟨rfl, hb2⟩
  go_wp2_with fail
  go_ret
  exact ⟨rfl, (HB.out _).trans (hb2.mono (HB.out _).size)⟩
set_option maxHeartbeats 1000000 in
set_option maxRecDepth 100000 in
theorem mallreq {w : World} {A : Option Addr} {c : Nat} {l : List Rq} (hh : Has w w.heap.size A (reqCells l)) (hl : l.length ≤ 1000000) (n : Int) (p : Addr) (hp : w.cell? p = some (.int .i64 n)) (hb : p.block < w.heap.size) :
    Calls Tryz.prog 183 #[.slice A l.length c, .func (.func 184) #[] #[.pointer (some p)]] w fun e w' => e = .returned (.bool (l.all (fun r => validS r n))) ∧ Below w.heap.size w w' := by
  have H1 := Lib.hid hh
  have HP := Lib.hid hp
  have HPB := Lib.hid hb
  clear hh hp hb
  go_enter Tryz.func183, Tryz.ntmps183
  go_wp2_with fail
  go_loopw [9] (fun x wr => ∃ k : Nat, x = .int .i64 k ∧ k ≤ l.length ∧ Hid (Below w.heap.size w wr) ∧ Hid ((l.take k).all (fun r => validS r n) = true)) (fun x _ => l.length - (intOf x).toNat)
  case atStart => exact ⟨0, rfl, Nat.zero_le _, Below.refl _ _, rfl⟩
  case round =>
    obtain ⟨k, rfl, hk, HW, HT⟩ := hrel
    by_cases hlt : k < l.length
    · obtain ⟨a1, rfl, _, c0, c1, c2, c3, c4, c5⟩ := (H1.out.below HW.out (Nat.le_refl _)).req hlt
      have HX := Lib.hid (show l[k]? = some l[k] from List.getElem?_eq_getElem hlt)
      obtain ⟨x, hx⟩ : ∃ x, l[k] = x := ⟨_, rfl⟩
      rw [hx] at c0 c1 c2 c3 c4 c5 HX
      have HBx := Lib.hid (HW.out.alloc HW.out.size (.cells #[.int .i64 x.cl, .int .i64 x.tm, .int .i64 x.kd, .int .i64 x.ky, .int .i64 x.vl, .int .i64 x.sg] 69))
      have HC := Lib.hid (mvalid1 x n p (wr.alloc (.cells #[.int .i64 x.cl, .int .i64 x.tm, .int .i64 x.kd, .int .i64 x.ky, .int .i64 x.vl, .int .i64 x.sg] 69)) ((HBx.out.cell HPB.out).trans HP.out) (Nat.lt_of_lt_of_le HPB.out HBx.out.size))
      clear hx
      cases hv : validS x n
      · have HE := Lib.hid (all_far (p := fun r => validS r n) HX.out hv)
        rw [hv] at HC
        clear hv
        go_wp2_with (go_at_call 184; refine HC.out.mono ?_; rintro e w2 ⟨rfl, hb2⟩; have HB2 := Lib.hid (HBx.out.trans (hb2.mono HBx.out.size)); clear hb2)
        go_ret
        exact ⟨by rw [HE.out]; rfl, by assumption⟩
      · have HE := Lib.hid (show (l.take (k + 1)).all (fun r => validS r n) = true by rw [all_next HX.out, HT.out, hv]; rfl)
        rw [hv] at HC
        clear hv
        go_wp2_with (go_at_call 184; refine HC.out.mono ?_; rintro e w2 ⟨rfl, hb2⟩; have HB2 := Lib.hid (HBx.out.trans (hb2.mono HBx.out.size)); clear hb2)
        go_roundw
        case rel => exact ⟨k + 1, by go_num, by omega, by assumption, HE.out⟩
        case measure => simp [intOf]; omega
    · have HE := Lib.hid (show l.all (fun r => validS r n) = true by have := HT.out; rwa [List.take_of_length_le (by omega)] at this)
      go_wp2_with fail
      go_ret
      exact ⟨by rw [HE.out]; rfl, HW.out⟩
set_option maxHeartbeats 1000000 in
set_option maxRecDepth 100000 in
theorem mfew_any {w : World} {A : Option Addr} {c : Nat} {l : List Rq} (hh : Has w w.heap.size A (reqCells l)) (hl : l.length ≤ 1000000) (n : Int) :
    Calls Tryz.prog 164 #[.slice A l.length c, .int .i64 n] w fun e w' => e = .returned (.bool (fewS l n)) ∧ Below w.heap.size w w' := by
  have hmf : ∀ (fn : Fn) (first cap : Array Value) (w : World), (Instr.makeFunc fn first cap).run Tryz.prog w = .ok (.func fn first cap) w := fun _ _ _ _ => rfl
  have HB := Lib.hid (show Below w.heap.size w (w.alloc (.cells #[.int .i64 n] 3)) from (Below.refl _ w).alloc (Nat.le_refl _) _)
  have HA := Lib.hid (mallreq (c := c) (Reads.more HB.out.size _ _ (Reads.below HB.out (Nat.le_refl _) _ _ hh)) hl n ⟨w.heap.size, 0, none⟩ ((Blk.new w 3 #[.int .i64 n]).cell 0) (Blk.new w 3 #[.int .i64 n]).lt)
  by_cases h4 : l.length ≤ 4
  · have t0 : decide ((l.length : Int) ≤ 4) = true := decide_eq_true (by omega)
    have t1 : decide (l.length ≤ 4) = true := decide_eq_true h4
    have HF := Lib.hid (show fewS l n = l.all (fun r => validS r n) by unfold fewS; rw [decide_eq_true h4, Bool.true_and])
    rw [HF.out]
    clear hh h4
    go_enter Tryz.func164, Tryz.ntmps164
    go_wp2_with fail
    refine HA.out.mono ?_
    rintro e w2 ⟨rfl, hb2⟩
    go_wp2_with fail
    go_ret
    exact ⟨rfl, HB.out.trans (hb2.mono HB.out.size)⟩
  · have t0 : decide ((l.length : Int) ≤ 4) = false := decide_eq_false (by omega)
    have t1 : decide (l.length ≤ 4) = false := decide_eq_false h4
    have HF := Lib.hid (show fewS l n = false by unfold fewS; rw [decide_eq_false h4]; rfl)
    rw [HF.out]
    clear hh h4 HA
    go_enter Tryz.func164, Tryz.ntmps164
    go_wp2_with fail
    go_ret
    exact ⟨rfl, HB.out⟩
end Go.Proofs.YtbegjadohamkkaaGreat
/- The contracts of package msgs' votesForm, certForm, behind. -/
namespace Go.Proofs.YtbegjadohamkkaaGreat
open Go.RowKit

set_option maxHeartbeats 1000000 in
set_option maxRecDepth 100000 in
theorem mvseal1 (v : Vt) (w : World) :
    Calls Tryz.prog 185 #[.agg #[.int .i64 v.nd, .int .i64 v.sg]] w fun e w' => e = .returned (.bool (decide (0 ≤ v.sg ∧ v.sg < 1099511627776))) ∧ Below w.heap.size w w' := by
  have HB := Lib.hid (fun cs => show Below w.heap.size w (w.alloc (.cells cs 65)) from (Below.refl _ w).alloc (Nat.le_refl _) _)
  have HP := Lib.hid (fun w => misseal v.sg w)
  obtain ⟨r, hr⟩ : ∃ r, decide (0 ≤ v.sg ∧ v.sg < 1099511627776) = r := ⟨_, rfl⟩
  rw [hr] at HP ⊢
  clear hr
  go_enter Tryz.func185, Tryz.ntmps185
  go_wp2_with fail
  refine (HP.out _).mono ?_
  rintro e w2 ⟨rfl, rfl⟩
  go_wp2_with fail
  go_ret
  exact ⟨rfl, HB.out _⟩
set_option maxHeartbeats 1000000 in
set_option maxRecDepth 100000 in
theorem mallvote {w : World} {A : Option Addr} {c : Nat} {l : List Vt} (hh : Has w w.heap.size A (voteCells l)) (hl : l.length ≤ 1000000) :
    Calls Tryz.prog 65 #[.slice A l.length c, .func (.func 185) #[] #[]] w fun e w' => e = .returned (.bool (sealsS l)) ∧ Below w.heap.size w w' := by
  have H1 := Lib.hid hh
  clear hh
  go_enter Tryz.func65, Tryz.ntmps65
  go_wp2_with fail
  go_loopw [9] (fun x wr => ∃ k : Nat, x = .int .i64 k ∧ k ≤ l.length ∧ Hid (Below w.heap.size w wr) ∧ Hid ((l.take k).all (fun v => decide (0 ≤ v.sg ∧ v.sg < 1099511627776)) = true)) (fun x _ => l.length - (intOf x).toNat)
  case atStart => exact ⟨0, rfl, Nat.zero_le _, Below.refl _ _, rfl⟩
  case round =>
    obtain ⟨k, rfl, hk, HW, HT⟩ := hrel
    by_cases hlt : k < l.length
    · obtain ⟨ad, rfl, _, c0, c1⟩ := vote_at (H1.out.below HW.out (Nat.le_refl _)) hlt
      have HX := Lib.hid (show l[k]? = some l[k] from List.getElem?_eq_getElem hlt)
      obtain ⟨x, hx⟩ : ∃ x, l[k] = x := ⟨_, rfl⟩
      rw [hx] at c0 c1 HX
      have HBx := Lib.hid (HW.out.alloc HW.out.size (.cells #[.int .i64 x.nd, .int .i64 x.sg] 65))
      have HC := Lib.hid (mvseal1 x (wr.alloc (.cells #[.int .i64 x.nd, .int .i64 x.sg] 65)))
      clear hx
      cases hv : decide (0 ≤ x.sg ∧ x.sg < 1099511627776)
      · have HE := Lib.hid (show sealsS l = false from all_far (p := fun v : Vt => decide (0 ≤ v.sg ∧ v.sg < 1099511627776)) HX.out hv)
        rw [hv] at HC
        clear hv
        go_wp2_with (go_at_call 185; refine HC.out.mono ?_; rintro e w2 ⟨rfl, hb2⟩; have HB2 := Lib.hid (HBx.out.trans (hb2.mono HBx.out.size)); clear hb2)
        go_ret
        exact ⟨by rw [HE.out]; rfl, by assumption⟩
      · have HE := Lib.hid (show (l.take (k + 1)).all (fun v => decide (0 ≤ v.sg ∧ v.sg < 1099511627776)) = true by rw [all_next HX.out, HT.out, hv]; rfl)
        rw [hv] at HC
        clear hv
        go_wp2_with (go_at_call 185; refine HC.out.mono ?_; rintro e w2 ⟨rfl, hb2⟩; have HB2 := Lib.hid (HBx.out.trans (hb2.mono HBx.out.size)); clear hb2)
        go_roundw
        case rel => exact ⟨k + 1, by go_num, by omega, by assumption, HE.out⟩
        case measure => simp [intOf]; omega
    · have HE := Lib.hid (show sealsS l = true by have := HT.out; rwa [List.take_of_length_le (by omega)] at this)
      go_wp2_with fail
      go_ret
      exact ⟨by rw [HE.out]; rfl, HW.out⟩
set_option maxHeartbeats 1000000 in
set_option maxRecDepth 100000 in
theorem mvotes_any {w : World} {A : Option Addr} {c : Nat} {l : List Vt} (hh : Has w w.heap.size A (voteCells l)) (hl : l.length ≤ 1000000) (f : Int) :
    Calls Tryz.prog 166 #[.slice A l.length c, .int .i64 f] w fun e w' => e = .returned (.bool (risingS l f && sealsS l)) ∧ Below w.heap.size w w' := by
  have HR := Lib.hid (rising_any (c := c) hh rfl (by unfold maxLen; omega) f)
  have HA := Lib.hid (fun w2 (hb : Below w.heap.size w w2) => mallvote (c := c) (Reads.more hb.size _ _ (Reads.below hb (Nat.le_refl _) _ _ hh)) hl)
  clear hh hl
  cases hr : risingS l f
  · rw [hr] at HR
    clear hr HA
    go_enter Tryz.func166, Tryz.ntmps166
    go_wp2_with fail
    refine HR.out.mono ?_
    rintro e w1 ⟨rfl, hb1⟩
    go_wp2_with fail
    go_ret
    exact ⟨rfl, hb1⟩
  · rw [hr] at HR
    clear hr
    go_enter Tryz.func166, Tryz.ntmps166
    go_wp2_with fail
    refine HR.out.mono ?_
    rintro e w1 ⟨rfl, hb1⟩
    have HB1 := Lib.hid hb1
    clear hb1
    go_wp2_with fail
    refine (HA.out _ HB1.out).mono ?_
    rintro e w2 ⟨rfl, hb2⟩
    go_wp2_with fail
    go_ret
    exact ⟨by simp, HB1.out.trans (hb2.mono HB1.out.size)⟩
set_option maxHeartbeats 1000000 in
set_option maxRecDepth 100000 in
theorem mcert_any (x : Cs) {w : World} (h : x.In w w.heap.size) (hs : x.Short) (f n : Int) :
    Calls Tryz.prog 135 #[.agg #[.int .i64 x.c.vw, .int .i64 x.c.ins, .int .i64 x.c.sq, .slice x.A1 x.c.bt.length x.c1, .slice x.A2 x.c.vs.length x.c2], .int .i64 f, .int .i64 n] w fun e w' => e = .returned (.bool (certS f n x.c)) ∧ Below w.heap.size w w' := by
  have HB := Lib.hid (show Below w.heap.size w (w.alloc (.cells #[.int .i64 x.c.vw, .int .i64 x.c.ins, .int .i64 x.c.sq, .slice x.A1 x.c.bt.length x.c1, .slice x.A2 x.c.vs.length x.c2] 25)) from (Below.refl _ _).alloc (Nat.le_refl _) _)
  have HX := Lib.hid (show Blk (w.alloc (.cells #[.int .i64 x.c.vw, .int .i64 x.c.ins, .int .i64 x.c.sq, .slice x.A1 x.c.bt.length x.c1, .slice x.A2 x.c.vs.length x.c2] 25)) w.heap.size 25 _ from Blk.new _ _ _)
  have KP := Lib.hid (fun w => mplaced x.c.vw x.c.ins x.c.sq f w)
  have HI1 := h.reads (Reads.below HB.out (Nat.le_refl _)) |>.reads (Reads.more HB.out.size)
  have KF := Lib.hid (mfew_any (c := x.c1) HI1.bt hs.bt n)
  have KV := Lib.hid (fun w2 (hb : Below w.heap.size w w2) => mvotes_any (w := w2) (c := x.c2) (Reads.more hb.size _ _ (Reads.below hb (Nat.le_refl _) _ _ h.vs)) hs.vs f)
  clear h hs HI1
  go_enter Tryz.func135, Tryz.ntmps135
  go_wp2_with fail
  refine (KP.out _).mono ?_
  rintro e w' ⟨rfl, rfl⟩
  cases hp : spotS x.c.vw x.c.ins x.c.sq f
  · have HE := Lib.hid (show certS f n x.c = false by unfold certS; rw [hp]; rfl)
    clear hp
    go_wp2_with fail
    go_ret
    exact ⟨by rw [HE.out]; rfl, HB.out⟩
  · have HP := Lib.hid hp
    clear hp
    go_wp2_with fail
    refine KF.out.mono ?_
    rintro e w2 ⟨rfl, hb2⟩
    have HB2 := Lib.hid (HB.out.trans (hb2.mono HB.out.size))
    have hx2 := HX.out.below hb2 HX.out.lt
    have d4 : w2.cell? ⟨w.heap.size, 4, none⟩ = some (.slice x.A2 x.c.vs.length x.c2) := hx2.cell 4
    clear hb2 hx2 KF KP
    cases hf : fewS x.c.bt n
    · have HE := Lib.hid (show certS f n x.c = false by unfold certS; rw [hf]; simp)
      clear hf
      go_wp2_with fail
      go_ret
      exact ⟨by rw [HE.out]; rfl, HB2.out⟩
    · have HE := Lib.hid (show certS f n x.c = (risingS x.c.vs f && sealsS x.c.vs) by unfold certS; rw [hf, HP.out]; simp)
      clear hf
      go_wp2_with fail
      refine (KV.out _ HB2.out).mono ?_
      rintro e w3 ⟨rfl, hb3⟩
      go_wp2_with fail
      go_ret
      exact ⟨by rw [HE.out]; rfl, HB2.out.trans (hb3.mono HB2.out.size)⟩
set_option maxHeartbeats 1000000 in
set_option maxRecDepth 100000 in
theorem mbehind_any (x y : Cs) (w : World) :
    Calls Tryz.prog 167 #[.agg #[.int .i64 x.c.vw, .int .i64 x.c.ins, .int .i64 x.c.sq, .slice x.A1 x.c.bt.length x.c1, .slice x.A2 x.c.vs.length x.c2], .agg #[.int .i64 y.c.vw, .int .i64 y.c.ins, .int .i64 y.c.sq, .slice y.A1 y.c.bt.length y.c1, .slice y.A2 y.c.vs.length y.c2]] w fun e w' => e = .returned (.bool (behindS x.c y.c)) ∧ Below w.heap.size w w' := by
  have HB := Lib.hid (fun cs ds => show Below w.heap.size w ((w.alloc (.cells cs 25)).alloc (.cells ds 25)) from ((Below.refl _ w).alloc (Nat.le_refl _) _).alloc (by simp) _)
  by_cases h1 : x.c.ins < y.c.ins
  · have t1 : decide (x.c.ins < y.c.ins) = true := decide_eq_true h1
    rw [show behindS x.c y.c = true from decide_eq_true (Or.inl h1)]
    clear h1
    go_enter Tryz.func167, Tryz.ntmps167
    go_wp2_with fail
    go_ret
    exact ⟨rfl, HB.out _ _⟩
  · have t1 : decide (x.c.ins < y.c.ins) = false := decide_eq_false h1
    by_cases h2 : y.c.ins = x.c.ins
    · have t2 : (y.c.ins == x.c.ins) = true := by simpa using h2
      rw [show behindS x.c y.c = decide (x.c.sq < y.c.sq) from decide_eq_decide.mpr (by omega)]
      clear h1 h2
      go_enter Tryz.func167, Tryz.ntmps167
      go_wp2_with fail
      go_ret
      exact ⟨rfl, HB.out _ _⟩
    · have t2 : (y.c.ins == x.c.ins) = false := by simpa using h2
      rw [show behindS x.c y.c = false from decide_eq_false (by omega)]
      clear h1 h2
      go_enter Tryz.func167, Tryz.ntmps167
      go_wp2_with fail
      go_ret
      exact ⟨rfl, HB.out _ _⟩
end Go.Proofs.YtbegjadohamkkaaGreat
/- The contract of the document's parts, whatever their number; of has. -/
namespace Go.Proofs.YtbegjadohamkkaaGreat
open Go.RowKit Go.Sort

theorem parts_no0 {view : Int} {l : List Pt} {f n : Int} (h : ¬ (l.length : Int) = 2 * f + 1) : partsS view l f n = false := by unfold partsS; rw [decide_eq_false h]; rfl
set_option maxHeartbeats 1000000 in
set_option maxRecDepth 100000 in
theorem rparts_any (m : Ms) {w : World} (h : m.In w w.heap.size) (hs : ∀ p ∈ m.m.ps, p.Short) (hl : m.m.ps.length ≤ 1000000) (f n : Int) (hf : 1 ≤ f ∧ f ≤ 4) :
    Calls Tryz.prog 84 #[.agg #[.int .i64 m.m.kd, .int .i64 m.m.fr, .int .i64 m.m.vw, .int .i64 m.m.ins, .int .i64 m.m.sq, .int .i64 m.m.rs, .slice m.A1 m.m.bt.length m.c1, .slice m.A2 m.m.vs.length m.c2, .slice m.A3 m.m.cs.length m.c3, .slice m.A4 m.m.ps.length m.c4], .int .i64 f, .int .i64 n] w fun e w' => e = .returned (.bool (partsS m.m.vw m.m.ps f n)) ∧ Below w.heap.size w w' := by
  by_cases hlen : (m.m.ps.length : Int) = 2 * f + 1
  · exact rparts_loop m h hs hl f n hf hlen
  · rw [parts_no0 hlen]
    have hne : ((m.m.ps.length : Int) != 2 * f + 1) = true := by simpa using hlen
    have HW0 := Lib.hid (show RowKit.Below w.heap.size w (w.alloc (.cells #[.int .i64 m.m.kd, .int .i64 m.m.fr, .int .i64 m.m.vw, .int .i64 m.m.ins, .int .i64 m.m.sq, .int .i64 m.m.rs, .slice m.A1 m.m.bt.length m.c1, .slice m.A2 m.m.vs.length m.c2, .slice m.A3 m.m.cs.length m.c3, .slice m.A4 m.m.ps.length m.c4] 38)) from (Below.refl _ _).alloc (Nat.le_refl _) _)
    have HMB := Lib.hid (show Blk (w.alloc (.cells #[.int .i64 m.m.kd, .int .i64 m.m.fr, .int .i64 m.m.vw, .int .i64 m.m.ins, .int .i64 m.m.sq, .int .i64 m.m.rs, .slice m.A1 m.m.bt.length m.c1, .slice m.A2 m.m.vs.length m.c2, .slice m.A3 m.m.cs.length m.c3, .slice m.A4 m.m.ps.length m.c4] 38)) w.heap.size 38 #[.int .i64 m.m.kd, .int .i64 m.m.fr, .int .i64 m.m.vw, .int .i64 m.m.ins, .int .i64 m.m.sq, .int .i64 m.m.rs, .slice m.A1 m.m.bt.length m.c1, .slice m.A2 m.m.vs.length m.c2, .slice m.A3 m.m.cs.length m.c3, .slice m.A4 m.m.ps.length m.c4] from Blk.new _ _ _)
    have KQ0 := fun (W : World) d os => Calls.regrown_of ((rquorum_any f (grow (redrawn W d) os)).mono fun _ _ ⟨he, hw⟩ => ⟨he, hw ▸ Below.refl _ _⟩)
    rw [quorumS_in hf.1 hf.2] at KQ0
    have HKQ := Lib.hid KQ0
    clear h hs hl hlen KQ0
    go_enter Tryz.func84, Tryz.ntmps84
    go_wp2_with fail
    obtain ⟨w0, hw0⟩ : ∃ w0, w.alloc (.cells #[.int .i64 m.m.kd, .int .i64 m.m.fr, .int .i64 m.m.vw, .int .i64 m.m.ins, .int .i64 m.m.sq, .int .i64 m.m.rs, .slice m.A1 m.m.bt.length m.c1, .slice m.A2 m.m.vs.length m.c2, .slice m.A3 m.m.cs.length m.c3, .slice m.A4 m.m.ps.length m.c4] 38) = w0 := ⟨_, rfl⟩
    rw [hw0] at HW0 HMB ⊢
    obtain ⟨g0, hg0⟩ : ∃ g0, w.heap.size = g0 := ⟨_, rfl⟩
    rw [hg0] at HMB ⊢
    clear hw0 hg0
    have m9 := HMB.out.cell 9
    simp only [List.getElem?_toArray, List.getElem?_cons_zero, List.getElem?_cons_succ] at m9
    have m9 := cell_regrown m9
    have KQ := HKQ.out w0
    have HB1 := Lib.hid (RowKit.Below.refl w0.heap.size w0)
    refine wp_region_quiet_below (by kernel_rfl) (by kernel_rfl) ?_
    refine wq_out ?_
    iterate 4 (refine wq_do (by kernel_rfl) (fun K hK => ?_); go_simp; refine hK _ ?_; clear hK K)
    refine wq_do (by kernel_rfl) (fun K hK => ?_)
    go_simp
    apply Exists.intro
    refine ⟨fun a => ?_, hK _ ?_⟩
    · exact KQ a.d a.os
    clear hK K
    refine wq_do (by kernel_rfl) (fun K hK => ?_)
    go_simp
    refine hK _ ?_
    clear hK K
    refine wq_nil ?_
    intro _ hw'
    obtain ⟨⟨dq, osq⟩, hw''⟩ := hw'
    subst hw''
    have HB3 := Lib.hid (HB1.out.trans ((below_regrown w0 dq osq).mono HB1.out.size))
    clear KQ m9 HB1
    go_wp2_with fail
    go_ret
    exact ⟨rfl, HW0.out.trans (HB3.out.mono HW0.out.size)⟩
end Go.Proofs.YtbegjadohamkkaaGreat
/- The contracts of msgs.Ballot and of the document's own. -/
namespace Go.Proofs.YtbegjadohamkkaaGreat
open Go.RowKit

/-- A node's vote for a certificate's batch. -/
def ballotM (kd nd : Int) (c : Ct) : Mg := ⟨kd, nd, c.vw, c.ins, c.sq, 0, c.bt, [], [], []⟩
set_option maxHeartbeats 1000000 in
set_option maxRecDepth 100000 in
theorem rballot_any (kd nd : Int) (x : Cs) (w : World) :
    Calls Tryz.prog 39 #[.int .i64 kd, .int .i64 nd, .agg #[.int .i64 x.c.vw, .int .i64 x.c.ins, .int .i64 x.c.sq, .slice x.A1 x.c.bt.length x.c1, .slice x.A2 x.c.vs.length x.c2]] w
      fun e w' => e = .returned (.agg #[.int .i64 kd, .int .i64 nd, .int .i64 x.c.vw, .int .i64 x.c.ins, .int .i64 x.c.sq, .int .i64 0, .slice x.A1 x.c.bt.length x.c1, .slice none 0 0, .slice none 0 0, .slice none 0 0]) ∧ Below w.heap.size w w' := by
  have HB := Lib.hid (fun (cs ds : Array Value) => show Below w.heap.size w ((w.alloc (.cells cs 25)).alloc (.cells ds 38)) from ((Below.refl _ w).alloc (Nat.le_refl _) _).alloc (by simp) _)
  go_enter Tryz.func39, Tryz.ntmps39
  go_wp2
  refine bodyPost_ret (v := .agg #[.int .i64 kd, .int .i64 nd, .int .i64 x.c.vw, .int .i64 x.c.ins, .int .i64 x.c.sq, .int .i64 0, .slice x.A1 x.c.bt.length x.c1, .slice none 0 0, .slice none 0 0, .slice none 0 0]) ?_ ?_ ?_
  case refine_2 => rfl
  case refine_3 => exact ⟨rfl, HB.out _ _⟩
  simp [results, Tryz.results39, go_sem]
set_option maxHeartbeats 4000000 in
set_option maxRecDepth 100000 in
theorem ballot_any (kd nd : Int) (x : Cs) (w : World) (hx : x.In w w.heap.size) (hm : x.c.bt.length ≤ 1000000) :
    Calls Tryz.prog 68 #[.int .i64 kd, .int .i64 nd, .agg #[.int .i64 x.c.vw, .int .i64 x.c.ins, .int .i64 x.c.sq, .slice x.A1 x.c.bt.length x.c1, .slice x.A2 x.c.vs.length x.c2]] w
      fun e w' => ∃ A c, e = .returned (.agg #[.int .i64 kd, .int .i64 nd, .int .i64 x.c.vw, .int .i64 x.c.ins, .int .i64 x.c.sq, .int .i64 0, .slice A x.c.bt.length c, .slice none 0 0, .slice none 0 0, .slice none 0 0]) ∧ w'.ownsRow w.heap.size 69 6 (.slice A x.c.bt.length c) x.c.bt.length (reqCells x.c.bt) ∧ Below w.heap.size w w' := by
  have hb0 : Below w.heap.size w ((w.alloc (.cells #[.int .i64 x.c.vw, .int .i64 x.c.ins, .int .i64 x.c.sq, .slice x.A1 x.c.bt.length x.c1, .slice x.A2 x.c.vs.length x.c2] 25)).alloc (.cells #[.int .i64 0, .int .i64 0, .int .i64 0, .int .i64 0, .int .i64 0, .int .i64 0, .slice none 0 0, .slice none 0 0, .slice none 0 0, .slice none 0 0] 38)) := ((Below.refl _ w).alloc (Nat.le_refl _) _).alloc (by simp) _
  have HB0 := Lib.hid hb0
  have HI := Lib.hid (hx.bt.below hb0 (Nat.le_refl _))
  clear hx hb0
  go_enter Tryz.func68, Tryz.ntmps68
  go_wp2_with fail
  obtain ⟨w0, hw0⟩ : ∃ w0, ((w.alloc (.cells #[.int .i64 x.c.vw, .int .i64 x.c.ins, .int .i64 x.c.sq, .slice x.A1 x.c.bt.length x.c1, .slice x.A2 x.c.vs.length x.c2] 25)).alloc (.cells #[.int .i64 0, .int .i64 0, .int .i64 0, .int .i64 0, .int .i64 0, .int .i64 0, .slice none 0 0, .slice none 0 0, .slice none 0 0, .slice none 0 0] 38)) = w0 := ⟨_, rfl⟩
  have HC := Lib.hid (show Blk w0 w.heap.size 25 #[.int .i64 x.c.vw, .int .i64 x.c.ins, .int .i64 x.c.sq, .slice x.A1 x.c.bt.length x.c1, .slice x.A2 x.c.vs.length x.c2] by rw [← hw0]; exact (Blk.new _ _ _).alloc _)
  have HM := Lib.hid (show Blk w0 (w.heap.size + 1) 38 #[.int .i64 0, .int .i64 0, .int .i64 0, .int .i64 0, .int .i64 0, .int .i64 0, .slice none 0 0, .slice none 0 0, .slice none 0 0, .slice none 0 0] by rw [← hw0]; exact Blk.new1 _ _ _ _)
  rw [hw0] at HB0 HI ⊢
  clear hw0
  have d0 := HC.out.cell 0
  have d1 := HC.out.cell 1
  have d2 := HC.out.cell 2
  have d3 := HC.out.cell 3
  simp only [List.getElem?_toArray, List.getElem?_cons_zero, List.getElem?_cons_succ] at d0 d1 d2 d3
  go_region_held3 (fun w' => w'.cell? ⟨w.heap.size, 0, none⟩ = some (.int .i64 x.c.vw) ∧ w'.cell? ⟨w.heap.size, 1, none⟩ = some (.int .i64 x.c.ins) ∧ w'.cell? ⟨w.heap.size, 2, none⟩ = some (.int .i64 x.c.sq) ∧ w'.cell? ⟨w.heap.size, 3, none⟩ = some (.slice x.A1 x.c.bt.length x.c1)) (go_keep)
    (first | (go_at_call 124; refine (mq_clone (B := w.heap.size) (c := x.c1) (zs := x.c.bt) HI.out.drew rfl hm).mono ?_; rintro e w2 ⟨v, rfl, ho, hb⟩; obtain ⟨A2, c2, rfl, _, _⟩ := own_slice ho; have q0 := (Below.cell hb (p := ⟨w.heap.size, 0, none⟩) HC.out.lt).trans d0; have q1 := (Below.cell hb (p := ⟨w.heap.size, 1, none⟩) HC.out.lt).trans d1; have q2 := (Below.cell hb (p := ⟨w.heap.size, 2, none⟩) HC.out.lt).trans d2; have q3 := (Below.cell hb (p := ⟨w.heap.size, 3, none⟩) HC.out.lt).trans d3; have hB2 := Blk.below (Blk.drew HM.out) hb HM.out.lt; have z0 : w2.cell? ⟨w.heap.size + 1, 0, none⟩ = some (.int .i64 0) := Blk.cell hB2 0; have z1 : w2.cell? ⟨w.heap.size + 1, 1, none⟩ = some (.int .i64 0) := Blk.cell hB2 1; have z2 : w2.cell? ⟨w.heap.size + 1, 2, none⟩ = some (.int .i64 0) := Blk.cell hB2 2; have z3 : w2.cell? ⟨w.heap.size + 1, 3, none⟩ = some (.int .i64 0) := Blk.cell hB2 3; have z4 : w2.cell? ⟨w.heap.size + 1, 4, none⟩ = some (.int .i64 0) := Blk.cell hB2 4; have z5 : w2.cell? ⟨w.heap.size + 1, 5, none⟩ = some (.int .i64 0) := Blk.cell hB2 5; have z6 : w2.cell? ⟨w.heap.size + 1, 6, none⟩ = some (.slice none 0 0) := Blk.cell hB2 6; have z7 : w2.cell? ⟨w.heap.size + 1, 7, none⟩ = some (.slice none 0 0) := Blk.cell hB2 7; have z8 : w2.cell? ⟨w.heap.size + 1, 8, none⟩ = some (.slice none 0 0) := Blk.cell hB2 8; have z9 : w2.cell? ⟨w.heap.size + 1, 9, none⟩ = some (.slice none 0 0) := Blk.cell hB2 9; have f0 := Blk.frozen hB2 0; have f1 := Blk.frozen hB2 1; have f2 := Blk.frozen hB2 2; have f3 := Blk.frozen hB2 3; have f4 := Blk.frozen hB2 4; have f5 := Blk.frozen hB2 5; have f6 := Blk.frozen hB2 6; have f7 := Blk.frozen hB2 7; have f8 := Blk.frozen hB2 8; have f9 := Blk.frozen hB2 9))
  have hk := keeps_ten hB2 (.int .i64 kd) (.int .i64 nd) (.int .i64 x.c.vw) (.int .i64 x.c.ins) (.int .i64 x.c.sq) (.int .i64 0) (.slice A2 x.c.bt.length c2) (.slice none 0 0) (.slice none 0 0) (.slice none 0 0)
  have HO := Lib.hid (own_down (hk _ _ _ _ _ _ (by decide) ho) (show w.heap.size ≤ w0.drew.heap.size from HB0.out.size))
  have hb5 := ((((((((((((HB0.out).trans (RowKit.Below.mono (show Below w0.heap.size w0 w2 from ⟨hb.os, hb.tape, hb.output, hb.size, hb.block⟩) HB0.out.size)).setCell (p := ⟨w.heap.size + 1, 0, none⟩) (Nat.le_succ _) (.int .i64 kd)).setCell (p := ⟨w.heap.size + 1, 1, none⟩) (Nat.le_succ _) (.int .i64 nd)).setCell (p := ⟨w.heap.size + 1, 2, none⟩) (Nat.le_succ _) (.int .i64 x.c.vw)).setCell (p := ⟨w.heap.size + 1, 3, none⟩) (Nat.le_succ _) (.int .i64 x.c.ins)).setCell (p := ⟨w.heap.size + 1, 4, none⟩) (Nat.le_succ _) (.int .i64 x.c.sq)).setCell (p := ⟨w.heap.size + 1, 5, none⟩) (Nat.le_succ _) (.int .i64 0)).setCell (p := ⟨w.heap.size + 1, 6, none⟩) (Nat.le_succ _) (.slice A2 x.c.bt.length c2)).setCell (p := ⟨w.heap.size + 1, 7, none⟩) (Nat.le_succ _) (.slice none 0 0)).setCell (p := ⟨w.heap.size + 1, 8, none⟩) (Nat.le_succ _) (.slice none 0 0)).setCell (p := ⟨w.heap.size + 1, 9, none⟩) (Nat.le_succ _) (.slice none 0 0))
  have HB5 := Lib.hid hb5
  clear hb5 hk ho hb q0 q1 q2 q3 d0 d1 d2 d3 hB2
  go_wp2
  refine bodyPost_ret (v := .agg #[.int .i64 kd, .int .i64 nd, .int .i64 x.c.vw, .int .i64 x.c.ins, .int .i64 x.c.sq, .int .i64 0, .slice A2 x.c.bt.length c2, .slice none 0 0, .slice none 0 0, .slice none 0 0]) ?_ ?_ ?_
  case refine_2 => rfl
  case refine_3 => exact ⟨A2, c2, rfl, HO.out, HB5.out⟩
  simp [results, Tryz.results68, go_sem, z0, z1, z2, z3, z4, z5, z6, z7, z8, z9]
end Go.Proofs.YtbegjadohamkkaaGreat
