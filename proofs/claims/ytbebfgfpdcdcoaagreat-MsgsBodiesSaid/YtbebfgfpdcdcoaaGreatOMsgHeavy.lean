/- The contract of keep.Heavy: has a message more than is played? -/
import Derived.Test.YtbebfgfpdcdcoaaGreatOMsgKeep
namespace Go.Proofs.YtbebfgfpdcdcoaaGreat
open Go.RowKit

def lightP (p : Pt) : Bool := decide (p.vs.length ≤ 30) && !heavyC p.cs
def heavyM (m : Mg) : Bool := !(decide (m.bt.length ≤ 12 ∧ m.vs.length ≤ 30 ∧ m.ps.length ≤ 12) && !heavyC m.cs && m.ps.all lightP)
theorem heavyM_len {m : Mg} (h : ¬ (m.bt.length ≤ 12 ∧ m.vs.length ≤ 30 ∧ m.ps.length ≤ 12)) : heavyM m = true := by simp only [heavyM, decide_eq_false h, Bool.false_and]; rfl
theorem heavyM_certs {m : Mg} (h : heavyC m.cs = true) : heavyM m = true := by simp [heavyM, h]
theorem heavyM_part {m : Mg} {k : Nat} (hk : k < m.ps.length) (h : lightP m.ps[k] = false) : heavyM m = true := by
  have : m.ps.all lightP = false := by
    rw [List.all_eq_false]
    exact ⟨m.ps[k], List.getElem_mem hk, by simp [h]⟩
  simp [heavyM, this]
theorem heavyM_no {m : Mg} (h1 : m.bt.length ≤ 12 ∧ m.vs.length ≤ 30 ∧ m.ps.length ≤ 12) (h2 : heavyC m.cs = false) (h3 : (m.ps.take m.ps.length).all lightP = true) : heavyM m = false := by
  rw [List.take_length] at h3
  simp [heavyM, h1, h2, h3]
theorem light_msg {m : Mg} (h : heavyM m = false) : m.bt.length ≤ 12 ∧ m.vs.length ≤ 30 ∧ m.ps.length ≤ 12 ∧ heavyC m.cs = false ∧ ∀ q ∈ m.ps, q.vs.length ≤ 30 ∧ heavyC q.cs = false := by
  simp only [heavyM, Bool.not_eq_false', Bool.and_eq_true, decide_eq_true_eq, List.all_eq_true, Bool.not_eq_true'] at h
  refine ⟨h.1.1.1, h.1.1.2.1, h.1.1.2.2, h.1.2, fun q hq => ?_⟩
  have := h.2 q hq
  simpa [lightP] using this
theorem light_parts {l : List Pt} (h1 : l.length ≤ 12) (h2 : ∀ q ∈ l, q.vs.length ≤ 30 ∧ heavyC q.cs = false) : (listToks Pt.toks l).length ≤ 33649 := by
  have h3 : (l.flatMap Pt.toks).length ≤ l.length * 2804 := flatMap_le fun q hq => by
    have := h2 q hq
    have := certs_toks this.2
    rw [part_toks]; omega
  have h4 : l.length * 2804 ≤ 12 * 2804 := Nat.mul_le_mul_right _ h1
  simp only [listToks, List.length_cons]
  omega
theorem light_toks {m : Mg} (h : heavyM m = false) : 10 ≤ m.toks.length ∧ m.toks.length ≤ 40000 := by
  obtain ⟨h1, h2, h3, h4, h5⟩ := light_msg h
  have h6 := certs_toks h4
  have h7 := light_parts h3 h5
  have h8 : 1 ≤ (listToks Ct.toks m.cs).length := by simp [listToks]
  have h9 : 1 ≤ (listToks Pt.toks m.ps).length := by simp [listToks]
  simp only [Mg.toks, Mg.head, List.length_append, List.length_cons, List.length_nil, reqs_toks, votes_toks]
  omega
theorem cert_small {l : List Ct} (h : heavyC l = false) : ∀ x ∈ l, smallCert x := fun x hx => by
  have := (light_of h).2 x hx
  exact ⟨by omega, by omega⟩
theorem light_ms {m : Mg} (h : heavyM m = false) : smallMs m := by
  obtain ⟨h1, h2, h3, h4, h5⟩ := light_msg h
  refine ⟨by omega, by omega, by have := (light_of h4).1; omega, cert_small h4, by omega, fun q hq => ?_⟩
  have := h5 q hq
  exact ⟨by omega, by have := (light_of this.2).1; omega, cert_small this.2⟩
set_option maxHeartbeats 4000000 in
set_option maxRecDepth 100000 in
theorem heavy_un (m : Mg) (A1 A2 A3 A4 : Option Addr) (c1 c2 c3 c4 : Nat) (w : World) (h : (Ms.mk m A1 c1 A2 c2 A3 c3 A4 c4).In w w.heap.size) :
    Calls Tryz.prog 30 #[.agg #[.int .i64 m.kd, .int .i64 m.fr, .int .i64 m.vw, .int .i64 m.ins, .int .i64 m.sq, .int .i64 m.rs, .slice A1 m.bt.length c1, .slice A2 m.vs.length c2, .slice A3 m.cs.length c3, .slice A4 m.ps.length c4]] w fun e w' => e = .returned (.bool (heavyM m)) ∧ Below w.heap.size w w' := by
  obtain ⟨_, _, h3, h4⟩ := h
  have hb1 : Below w.heap.size w (w.alloc (.cells #[.int .i64 m.kd, .int .i64 m.fr, .int .i64 m.vw, .int .i64 m.ins, .int .i64 m.sq, .int .i64 m.rs, .slice A1 m.bt.length c1, .slice A2 m.vs.length c2, .slice A3 m.cs.length c3, .slice A4 m.ps.length c4] 38)) := (Below.refl _ w).alloc (Nat.le_refl _) _
  have HB := Lib.hid hb1
  have HI := Lib.hid (h4.reads (Reads.below hb1 (Nat.le_refl _)))
  have HI3 := Lib.hid ((h3.reads (Reads.below hb1 (Nat.le_refl _))).reads (Reads.more hb1.size))
  have HC := Lib.hid (fun w h => heavy_certs A3 c3 m.cs (B := w.heap.size) w h)
  clear h3 h4 hb1
  by_cases h1 : 12 < m.bt.length
  case pos =>
    have HE := Lib.hid (heavyM_len (m := m) (by omega))
    go_enter Tryz.func30, Tryz.ntmps30
    go_wp2_with fail
    go_ret
    exact ⟨by rw [HE.out]; rfl, HB.out⟩
  have h1' : m.bt.length ≤ 12 := by omega
  clear h1
  by_cases h2 : 30 < m.vs.length
  case pos =>
    have HE := Lib.hid (heavyM_len (m := m) (by omega))
    go_enter Tryz.func30, Tryz.ntmps30
    go_wp2_with fail
    go_ret
    exact ⟨by rw [HE.out]; rfl, HB.out⟩
  have h2' : m.vs.length ≤ 30 := by omega
  clear h2
  cases hc : heavyC m.cs
  case true =>
    have HE := Lib.hid (heavyM_certs hc)
    rw [hc] at HC
    clear hc
    go_enter Tryz.func30, Tryz.ntmps30
    go_wp2_with fail
    refine (HC.out _ HI3.out).mono ?_
    rintro e w1 ⟨rfl, rfl⟩
    go_wp2_with fail
    go_ret
    exact ⟨by rw [HE.out]; rfl, HB.out⟩
  rw [hc] at HC
  have HCc := Lib.hid hc
  clear hc
  by_cases h3 : 12 < m.ps.length
  case pos =>
    have HE := Lib.hid (heavyM_len (m := m) (by omega))
    go_enter Tryz.func30, Tryz.ntmps30
    go_wp2_with fail
    refine (HC.out _ HI3.out).mono ?_
    rintro e w1 ⟨rfl, rfl⟩
    go_wp2_with fail
    go_ret
    exact ⟨by rw [HE.out]; rfl, HB.out⟩
  have h3' : m.ps.length ≤ 12 := by omega
  have HBl := Lib.hid (Blk.new w 38 #[.int .i64 m.kd, .int .i64 m.fr, .int .i64 m.vw, .int .i64 m.ins, .int .i64 m.sq, .int .i64 m.rs, .slice A1 m.bt.length c1, .slice A2 m.vs.length c2, .slice A3 m.cs.length c3, .slice A4 m.ps.length c4])
  clear h3
  go_enter Tryz.func30, Tryz.ntmps30
  go_wp2_with fail
  refine (HC.out _ HI3.out).mono ?_
  rintro e w1 ⟨rfl, rfl⟩
  go_wp2_with fail
  obtain ⟨w1, hw1⟩ : ∃ w1, (w.alloc (.cells #[.int .i64 m.kd, .int .i64 m.fr, .int .i64 m.vw, .int .i64 m.ins, .int .i64 m.sq, .int .i64 m.rs, .slice A1 m.bt.length c1, .slice A2 m.vs.length c2, .slice A3 m.cs.length c3, .slice A4 m.ps.length c4] 38)) = w1 := ⟨_, rfl⟩
  rw [hw1] at HB HI HBl ⊢
  have c9 : w1.cell? ⟨w.heap.size, 9, none⟩ = some (.slice A4 m.ps.length c4) := HBl.out.cell 9
  clear hw1 HC HI3
  go_loop [3] (fun v => ∃ k : Nat, v = .int .i64 k ∧ k ≤ m.ps.length ∧ Hid ((m.ps.take k).all lightP = true)) (fun v => m.ps.length - (intOf v).toNat)
  case atStart => exact ⟨0, rfl, Nat.zero_le _, rfl⟩
  case round =>
    obtain ⟨k, rfl, hk, HT⟩ := hrel
    by_cases hlt : k < m.ps.length
    · obtain ⟨ad, y, rfl, _, hy, iy, e0, e1, e2, e3⟩ := HI.out.at hlt
      have HY := Lib.hid hy
      have HIy := Lib.hid (iy.cs)
      clear hy iy
      by_cases h4 : 30 < y.p.vs.length
      · have HE := Lib.hid (heavyM_part hlt (by rw [← HY.out]; simp [lightP]; omega))
        go_wp2_with fail
        go_ret
        exact ⟨by rw [HE.out]; rfl, HB.out⟩
      · have h4' : y.p.vs.length ≤ 30 := by omega
        clear h4
        have HC2 := Lib.hid (fun w h => heavy_certs y.A2 y.c2 y.p.cs (B := w.heap.size) w h)
        have HI2 := Lib.hid (HIy.out.reads (Reads.more HB.out.size))
        cases hc2 : heavyC y.p.cs
        · rw [hc2] at HC2
          have HE := Lib.hid (show (m.ps.take (k + 1)).all lightP = true by rw [all_next (List.getElem?_eq_getElem hlt), HT.out, ← HY.out]; simp [lightP, hc2, h4'])
          clear hc2
          go_wp2_with fail
          refine (HC2.out _ HI2.out).mono ?_
          rintro e w2 ⟨rfl, rfl⟩
          go_wp2_with fail
          go_round
          case rel => exact ⟨k + 1, by go_num, by omega, HE.out⟩
          case measure => simp [intOf]; omega
        · rw [hc2] at HC2
          have HE := Lib.hid (heavyM_part hlt (by rw [← HY.out]; simp [lightP, hc2]))
          clear hc2
          go_wp2_with fail
          refine (HC2.out _ HI2.out).mono ?_
          rintro e w2 ⟨rfl, rfl⟩
          go_wp2_with fail
          go_ret
          exact ⟨by rw [HE.out]; rfl, HB.out⟩
    · have HE := Lib.hid (heavyM_no ⟨h1', h2', h3'⟩ HCc.out (by rw [← show k = m.ps.length by omega]; exact HT.out))
      go_wp2_with fail
      go_ret
      exact ⟨by rw [HE.out]; rfl, HB.out⟩
theorem heavy_msg (x : Ms) (w : World) (h : x.In w w.heap.size) :
    Calls Tryz.prog 30 #[.agg #[.int .i64 x.m.kd, .int .i64 x.m.fr, .int .i64 x.m.vw, .int .i64 x.m.ins, .int .i64 x.m.sq, .int .i64 x.m.rs, .slice x.A1 x.m.bt.length x.c1, .slice x.A2 x.m.vs.length x.c2, .slice x.A3 x.m.cs.length x.c3, .slice x.A4 x.m.ps.length x.c4]] w fun e w' => e = .returned (.bool (heavyM x.m)) ∧ Below w.heap.size w w' := heavy_un x.m x.A1 x.A2 x.A3 x.A4 x.c1 x.c2 x.c3 x.c4 w h
end Go.Proofs.YtbebfgfpdcdcoaaGreat
