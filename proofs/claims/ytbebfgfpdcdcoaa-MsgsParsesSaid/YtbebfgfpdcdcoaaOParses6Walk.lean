/- The walk of MsgsParses: it returns true for any bytes. -/
import Derived.Test.YtbebfgfpdcdcoaaOMsgWake
import Derived.Test.YtbebfgfpdcdcoaaOMsgHeavy
import Derived.Test.YtbebfgfpdcdcoaaOS6
import Derived.Test.YtbebfgfpdcdcoaaOS0
import Derived.Deep.DeepCutAuto
namespace Go.Proofs.Ytbebfgfpdcdcoaa
open Go.RowKit

theorem flatMap_ge {α β : Type} {f : α → List β} (hf : ∀ x, 1 ≤ (f x).length) : ∀ l : List α, l.length ≤ (l.flatMap f).length
  | [] => by simp
  | x :: l => by
    have h1 := hf x
    have h2 := flatMap_ge hf l
    rw [List.flatMap_cons, List.length_append, List.length_cons]
    omega
theorem flatMap_mem {α β : Type} {f : α → List β} {x : α} : ∀ {l : List α}, x ∈ l → (f x).length ≤ (l.flatMap f).length
  | y :: l, h => by
    rw [List.flatMap_cons, List.length_append]
    rcases List.mem_cons.1 h with rfl | h
    · omega
    · have := flatMap_mem (f := f) h
      omega
theorem small_certs {l : List Ct} (h : (listToks Ct.toks l).length ≤ 9223372036854775806) : l.length ≤ 9223372036854775806 ∧ ∀ c ∈ l, smallCert c := by
  simp only [listToks, List.length_cons] at h
  have h1 := flatMap_ge (f := Ct.toks) (fun c => by rw [cert_toks]; omega) l
  refine ⟨by omega, fun c hc => ?_⟩
  have h2 := flatMap_mem (f := Ct.toks) hc
  rw [cert_toks] at h2
  exact ⟨by omega, by omega⟩
theorem small_toks {m : Mg} (h : m.toks.length ≤ 9223372036854775806) : smallMs m := by
  simp only [Mg.toks, Mg.head, List.length_append, List.length_cons, List.length_nil, reqs_toks, votes_toks] at h
  obtain ⟨h1, h2⟩ := small_certs (l := m.cs) (by omega)
  have h3 : (listToks Pt.toks m.ps).length ≤ 9223372036854775806 := by omega
  simp only [listToks, List.length_cons] at h3
  have h4 := flatMap_ge (f := Pt.toks) (fun q => by rw [part_toks]; omega) m.ps
  refine ⟨by omega, by omega, h1, h2, by omega, fun q hq => ?_⟩
  have h5 := flatMap_mem (f := Pt.toks) hq
  rw [part_toks] at h5
  obtain ⟨h6, h7⟩ := small_certs (l := q.cs) (by omega)
  exact ⟨by omega, h6, h7⟩
def msZ : Ms := ⟨⟨0, 0, 0, 0, 0, 0, [], [], [], []⟩, none, 0, none, 0, none, 0, none, 0⟩
theorem msZ_in (w : World) (B : Nat) : msZ.In w B := ⟨Has.nil _ _ _, Has.nil _ _ _, ⟨[], rfl, Has.nil _ _ _, by simp⟩, ⟨[], rfl, Has.nil _ _ _, by simp⟩⟩
set_option maxHeartbeats 8000000 in
set_option maxRecDepth 100000 in
theorem msgsParses_in (A : Option Addr) (c : Nat) (z0 zs : List Int) (n0 n : Nat) (w : World) (hn0 : z0.length = n0) (hn : zs.length = n) (hs : n ≤ 2000) (hcase : (n0 ≤ 2000 ∧ zs = z0) ∨ (2000 < n0 ∧ n = 2000)) (hc : n0 ≤ c) (hn9 : n0 ≤ 9223372036854775807) (hz : ∀ z ∈ zs, 0 ≤ z ∧ z ≤ 255) (hh : Has w w.heap.size A (u8s zs)) :
    Calls Try.prog 4 #[.slice A n0 c] w fun e w' => e = .returned (.bool true) ∧ Below w.heap.size w w' := by
  have HH := Lib.hid hh
  have HZ := Lib.hid hz
  have HN := Lib.hid hn
  have KP := Lib.hid (fun w' (hb : Below w.heap.size w w') => parse_any A c zs w.heap.size n hn (by omega) hz w' hb.size (hh.below hb (Nat.le_refl _)))
  have KR := Lib.hid (fun w' (hb : Below w.heap.size w w') => rparse_any A c zs n hn (by omega) hz w' ((hh.below hb (Nat.le_refl _)).more hb.size))
  have HHs := Lib.hid (fun w' (hb : Below w.heap.size w w') => (hh.below hb (Nat.le_refl _)).more hb.size)
  clear hh hz hn
  have hsl : (2000 < n0 → n = 2000) ∧ (n0 ≤ 2000 → n = n0) := by
    rcases hcase with ⟨h1, rfl⟩ | ⟨h1, h2⟩
    · exact ⟨fun h => by omega, fun _ => by have := HN.out; omega⟩
    · exact ⟨fun _ => h2, fun h => by omega⟩
  clear hcase hn0
  by_cases hbig : 2000 < n0
  case' pos =>
    obtain rfl : n = 2000 := hsl.1 hbig
    have t0 : decide ((2000 : Int) < (n0 : Int)) = true := decide_eq_true (by omega)
    have hcap : 2000 ≤ c := by omega
    have R1 : ∀ (w : World), (Instr.slice 30 (.slice A n0 c) none (some (.int .i64 2000)) none).run Try.prog w = .ok (.slice A 2000 c) w := fun w => bslice_head (w := w) A (n := n0) (c := c) (k := 2000) hcap
  case' neg =>
    obtain rfl : n = n0 := hsl.2 (by omega)
    have t0 : decide ((2000 : Int) < (n : Int)) = false := decide_eq_false (by omega)
  all_goals
    clear hsl hbig
    go_enter Try.func4, Try.ntmps4
    go_wp2_with fail
    refine (KP.out _ (Below.refl _ _)).mono ?_
    rintro e w1 ⟨hb1, hx⟩
    have HB1 := Lib.hid hb1
    clear hb1
    rcases hx with ⟨x, hx, rfl, ho⟩ | ⟨hx, rfl⟩
    case inl =>
      have HX := Lib.hid hx
      have HI1 := Lib.hid ho.in_
      have HBd := Lib.hid (body_parse HZ.out hx)
      clear ho hx
      go_wp2_with fail
      have hb2 : Below w1.heap.size w1 (w1.alloc (.cells #[.int .i64 x.m.kd, .int .i64 x.m.fr, .int .i64 x.m.vw, .int .i64 x.m.ins, .int .i64 x.m.sq, .int .i64 x.m.rs, .slice x.A1 x.m.bt.length x.c1, .slice x.A2 x.m.vs.length x.c2, .slice x.A3 x.m.cs.length x.c3, .slice x.A4 x.m.ps.length x.c4] 27)) := (Below.refl _ _).alloc (Nat.le_refl _) _
      have HB2 := Lib.hid (HB1.out.trans (hb2.mono HB1.out.size))
      have HM2 := Lib.hid (Blk.new w1 27 #[.int .i64 x.m.kd, .int .i64 x.m.fr, .int .i64 x.m.vw, .int .i64 x.m.ins, .int .i64 x.m.sq, .int .i64 x.m.rs, .slice x.A1 x.m.bt.length x.c1, .slice x.A2 x.m.vs.length x.c2, .slice x.A3 x.m.cs.length x.c3, .slice x.A4 x.m.ps.length x.c4])
      have HI2 := Lib.hid ((HI1.out.reads (Reads.below hb2 (Nat.le_refl _))).reads (Reads.more hb2.size))
      obtain ⟨w2, hw2⟩ : ∃ w2, (w1.alloc (.cells #[.int .i64 x.m.kd, .int .i64 x.m.fr, .int .i64 x.m.vw, .int .i64 x.m.ins, .int .i64 x.m.sq, .int .i64 x.m.rs, .slice x.A1 x.m.bt.length x.c1, .slice x.A2 x.m.vs.length x.c2, .slice x.A3 x.m.cs.length x.c3, .slice x.A4 x.m.ps.length x.c4] 27)) = w2 := ⟨_, rfl⟩
      obtain ⟨g2, hg2⟩ : ∃ g, w1.heap.size = g := ⟨_, rfl⟩
      rw [hw2] at HB2 HM2 HI2 ⊢
      rw [hg2] at HM2 ⊢
      clear hb2 hw2 hg2
      refine (KR.out w2 HB2.out).mono ?_
      rintro e w3 ⟨hb3, ⟨y, hy, rfl, ho⟩ | ⟨hy, rfl⟩⟩
      case inr => rw [HX.out] at hy; cases hy
      have HB3 := Lib.hid (HB2.out.trans (hb3.mono HB2.out.size))
      have HM3 := Lib.hid (HM2.out.below hb3 HM2.out.lt)
      have HI3 := Lib.hid ((HI2.out.reads (Reads.below hb3 (Nat.le_refl _))).reads (Reads.more hb3.size))
      have HJ3 := Lib.hid ho.in_
      have hxy : x.m = y.m := by rw [HX.out] at hy; injection hy
      have HXY := Lib.hid hxy
      clear ho hxy
      clear hb3 hy HB2 HM2 HI2
      go_upto_region 5 with fail
      have hb4 : Below w3.heap.size w3 (w3.alloc (.cells #[.int .i64 y.m.kd, .int .i64 y.m.fr, .int .i64 y.m.vw, .int .i64 y.m.ins, .int .i64 y.m.sq, .int .i64 y.m.rs, .slice y.A1 y.m.bt.length y.c1, .slice y.A2 y.m.vs.length y.c2, .slice y.A3 y.m.cs.length y.c3, .slice y.A4 y.m.ps.length y.c4] 27)) := (Below.refl _ _).alloc (Nat.le_refl _) _
      have HB4 := Lib.hid (HB3.out.trans (hb4.mono HB3.out.size))
      have HM4 := Lib.hid (HM3.out.below hb4 HM3.out.lt)
      have HI4 := Lib.hid ((HI3.out.reads (Reads.below hb4 (Nat.le_refl _))).reads (Reads.more hb4.size))
      have HJ4 := Lib.hid ((HJ3.out.reads (Reads.below hb4 (Nat.le_refl _))).reads (Reads.more hb4.size))
      have hnew := Blk.new w3 27 #[.int .i64 y.m.kd, .int .i64 y.m.fr, .int .i64 y.m.vw, .int .i64 y.m.ins, .int .i64 y.m.sq, .int .i64 y.m.rs, .slice y.A1 y.m.bt.length y.c1, .slice y.A2 y.m.vs.length y.c2, .slice y.A3 y.m.cs.length y.c3, .slice y.A4 y.m.ps.length y.c4]
      obtain ⟨w4, hw4⟩ : ∃ w4, (w3.alloc (.cells #[.int .i64 y.m.kd, .int .i64 y.m.fr, .int .i64 y.m.vw, .int .i64 y.m.ins, .int .i64 y.m.sq, .int .i64 y.m.rs, .slice y.A1 y.m.bt.length y.c1, .slice y.A2 y.m.vs.length y.c2, .slice y.A3 y.m.cs.length y.c3, .slice y.A4 y.m.ps.length y.c4] 27)) = w4 := ⟨_, rfl⟩
      obtain ⟨g4, hg4⟩ : ∃ g, w3.heap.size = g := ⟨_, rfl⟩
      rw [hw4] at HB4 HM4 hnew HI4 HJ4 ⊢
      rw [hg4] at hnew ⊢
      have HY4 := Lib.hid hnew
      clear hb4 hw4 hg4 hnew HB3 HM3 HI3 HJ3
      have d0 : World.cell? (w4) ⟨g2, 0, none⟩ = some (.int .i64 x.m.kd) := (HM4.out).cell 0
      have d1 : World.cell? (w4) ⟨g2, 1, none⟩ = some (.int .i64 x.m.fr) := (HM4.out).cell 1
      have d2 : World.cell? (w4) ⟨g2, 2, none⟩ = some (.int .i64 x.m.vw) := (HM4.out).cell 2
      have d3 : World.cell? (w4) ⟨g2, 3, none⟩ = some (.int .i64 x.m.ins) := (HM4.out).cell 3
      have d4 : World.cell? (w4) ⟨g2, 4, none⟩ = some (.int .i64 x.m.sq) := (HM4.out).cell 4
      have d5 : World.cell? (w4) ⟨g2, 5, none⟩ = some (.int .i64 x.m.rs) := (HM4.out).cell 5
      have d6 : World.cell? (w4) ⟨g2, 6, none⟩ = some (.slice x.A1 x.m.bt.length x.c1) := (HM4.out).cell 6
      have d7 : World.cell? (w4) ⟨g2, 7, none⟩ = some (.slice x.A2 x.m.vs.length x.c2) := (HM4.out).cell 7
      have d8 : World.cell? (w4) ⟨g2, 8, none⟩ = some (.slice x.A3 x.m.cs.length x.c3) := (HM4.out).cell 8
      have d9 : World.cell? (w4) ⟨g2, 9, none⟩ = some (.slice x.A4 x.m.ps.length x.c4) := (HM4.out).cell 9
      have f0 : World.cell? (w4) ⟨g4, 0, none⟩ = some (.int .i64 y.m.kd) := (HY4.out).cell 0
      have f1 : World.cell? (w4) ⟨g4, 1, none⟩ = some (.int .i64 y.m.fr) := (HY4.out).cell 1
      have f2 : World.cell? (w4) ⟨g4, 2, none⟩ = some (.int .i64 y.m.vw) := (HY4.out).cell 2
      have f3 : World.cell? (w4) ⟨g4, 3, none⟩ = some (.int .i64 y.m.ins) := (HY4.out).cell 3
      have f4 : World.cell? (w4) ⟨g4, 4, none⟩ = some (.int .i64 y.m.sq) := (HY4.out).cell 4
      have f5 : World.cell? (w4) ⟨g4, 5, none⟩ = some (.int .i64 y.m.rs) := (HY4.out).cell 5
      have f6 : World.cell? (w4) ⟨g4, 6, none⟩ = some (.slice y.A1 y.m.bt.length y.c1) := (HY4.out).cell 6
      have f7 : World.cell? (w4) ⟨g4, 7, none⟩ = some (.slice y.A2 y.m.vs.length y.c2) := (HY4.out).cell 7
      have f8 : World.cell? (w4) ⟨g4, 8, none⟩ = some (.slice y.A3 y.m.cs.length y.c3) := (HY4.out).cell 8
      have f9 : World.cell? (w4) ⟨g4, 9, none⟩ = some (.slice y.A4 y.m.ps.length y.c4) := (HY4.out).cell 9
      have KM := Lib.hid (keep_msg x y w4.heap.size w4 HI4.out HJ4.out (Nat.le_refl _) (small_toks (by have := HBd.out.2.1; have := HN.out; omega)))
      rw [show decide (x.m = y.m) = true from decide_eq_true HXY.out] at KM
      go_wp2_with fail
      refine KM.out.mono ?_
      rintro e w5 ⟨rfl, hb5⟩
      have HB5 := Lib.hid (HB4.out.trans (hb5.mono HB4.out.size))
      have HM5 := Lib.hid (HM4.out.below hb5 HM4.out.lt)
      have HI5 := Lib.hid ((HI4.out.reads (Reads.below hb5 (Nat.le_refl _))).reads (Reads.more hb5.size))
      clear d0 d1 d2 d3 d4 d5 d6 d7 d8 d9
      clear f0 f1 f2 f3 f4 f5 f6 f7 f8 f9
      clear hb5 KM HB4 HM4 HY4 HI4 HJ4
      have d0 : World.cell? (w5) ⟨g2, 0, none⟩ = some (.int .i64 x.m.kd) := (HM5.out).cell 0
      have d1 : World.cell? (w5) ⟨g2, 1, none⟩ = some (.int .i64 x.m.fr) := (HM5.out).cell 1
      have d2 : World.cell? (w5) ⟨g2, 2, none⟩ = some (.int .i64 x.m.vw) := (HM5.out).cell 2
      have d3 : World.cell? (w5) ⟨g2, 3, none⟩ = some (.int .i64 x.m.ins) := (HM5.out).cell 3
      have d4 : World.cell? (w5) ⟨g2, 4, none⟩ = some (.int .i64 x.m.sq) := (HM5.out).cell 4
      have d5 : World.cell? (w5) ⟨g2, 5, none⟩ = some (.int .i64 x.m.rs) := (HM5.out).cell 5
      have d6 : World.cell? (w5) ⟨g2, 6, none⟩ = some (.slice x.A1 x.m.bt.length x.c1) := (HM5.out).cell 6
      have d7 : World.cell? (w5) ⟨g2, 7, none⟩ = some (.slice x.A2 x.m.vs.length x.c2) := (HM5.out).cell 7
      have d8 : World.cell? (w5) ⟨g2, 8, none⟩ = some (.slice x.A3 x.m.cs.length x.c3) := (HM5.out).cell 8
      have d9 : World.cell? (w5) ⟨g2, 9, none⟩ = some (.slice x.A4 x.m.ps.length x.c4) := (HM5.out).cell 9
      go_wp2_with fail
      refine (body_any x w5 HI5.out (by have := HBd.out.2.1; have := HN.out; omega)).mono ?_
      clear d0 d1 d2 d3 d4 d5 d6 d7 d8 d9
      rintro e w6 ⟨hb6, ⟨bs, Y, cy, hbs, rfl, ho⟩ | ⟨hbs, rfl⟩⟩
      case inr => rw [HBd.out.1] at hbs; cases hbs
      have hbz : bs = zs := by rw [HBd.out.1] at hbs; injection hbs with hbs; exact hbs.symm
      subst hbz
      have HB6 := Lib.hid (HB5.out.trans (hb6.mono HB5.out.size))
      have HO6 := Lib.hid (Has.own ho)
      clear hb6 ho hbs HB5 HM5 HI5
      go_wp2_with fail
      refine (same_is rfl HN.out (by rw [HN.out]; omega) (r := true) (by unfold sameB; exact decide_eq_true rfl) w6 HO6.out (HHs.out w6 HB6.out)).mono ?_
      rintro e w7 ⟨rfl, nq, rfl⟩
      have HB7 := Lib.hid (below_drewN HB6.out nq)
      go_wp2_with fail
      refine (wakes6_any _).mono ?_
      rintro e wz ⟨rfl, hbz⟩
      have HQ := Lib.hid (HB7.out.trans (hbz.mono HB7.out.size))
      clear hbz
      go_wp2_with fail
      go_ret
      exact ⟨rfl, HQ.out⟩
    case inr =>
      have HX := Lib.hid hx
      clear hx
      go_wp2_with fail
      have hb2 : Below w1.heap.size w1 (w1.alloc (.cells #[.int .i64 0, .int .i64 0, .int .i64 0, .int .i64 0, .int .i64 0, .int .i64 0, .slice none 0 0, .slice none 0 0, .slice none 0 0, .slice none 0 0] 27)) := (Below.refl _ _).alloc (Nat.le_refl _) _
      have HB2 := Lib.hid (HB1.out.trans (hb2.mono HB1.out.size))
      have HM2 := Lib.hid (Blk.new w1 27 #[.int .i64 0, .int .i64 0, .int .i64 0, .int .i64 0, .int .i64 0, .int .i64 0, .slice none 0 0, .slice none 0 0, .slice none 0 0, .slice none 0 0])
      obtain ⟨w2, hw2⟩ : ∃ w2, (w1.alloc (.cells #[.int .i64 0, .int .i64 0, .int .i64 0, .int .i64 0, .int .i64 0, .int .i64 0, .slice none 0 0, .slice none 0 0, .slice none 0 0, .slice none 0 0] 27)) = w2 := ⟨_, rfl⟩
      obtain ⟨g2, hg2⟩ : ∃ g, w1.heap.size = g := ⟨_, rfl⟩
      rw [hw2] at HB2 HM2 ⊢
      rw [hg2] at HM2 ⊢
      clear hb2 hw2 hg2
      refine (KR.out w2 HB2.out).mono ?_
      rintro e w3 ⟨hb3, ⟨y, hy, rfl, ho⟩ | ⟨hy, rfl⟩⟩
      case inl => rw [HX.out] at hy; cases hy
      have HB3 := Lib.hid (HB2.out.trans (hb3.mono HB2.out.size))
      have HM3 := Lib.hid (HM2.out.below hb3 HM2.out.lt)
      clear hb3 hy HB2 HM2 
      go_upto_region 5 with fail
      have hb4 : Below w3.heap.size w3 (w3.alloc (.cells #[.int .i64 0, .int .i64 0, .int .i64 0, .int .i64 0, .int .i64 0, .int .i64 0, .slice none 0 0, .slice none 0 0, .slice none 0 0, .slice none 0 0] 27)) := (Below.refl _ _).alloc (Nat.le_refl _) _
      have HB4 := Lib.hid (HB3.out.trans (hb4.mono HB3.out.size))
      have HM4 := Lib.hid (HM3.out.below hb4 HM3.out.lt)
      have hnew := Blk.new w3 27 #[.int .i64 0, .int .i64 0, .int .i64 0, .int .i64 0, .int .i64 0, .int .i64 0, .slice none 0 0, .slice none 0 0, .slice none 0 0, .slice none 0 0]
      obtain ⟨w4, hw4⟩ : ∃ w4, (w3.alloc (.cells #[.int .i64 0, .int .i64 0, .int .i64 0, .int .i64 0, .int .i64 0, .int .i64 0, .slice none 0 0, .slice none 0 0, .slice none 0 0, .slice none 0 0] 27)) = w4 := ⟨_, rfl⟩
      obtain ⟨g4, hg4⟩ : ∃ g, w3.heap.size = g := ⟨_, rfl⟩
      rw [hw4] at HB4 HM4 hnew ⊢
      rw [hg4] at hnew ⊢
      have HY4 := Lib.hid hnew
      clear hb4 hw4 hg4 hnew HB3 HM3 
      have d0 : World.cell? (w4) ⟨g2, 0, none⟩ = some (.int .i64 0) := (HM4.out).cell 0
      have d1 : World.cell? (w4) ⟨g2, 1, none⟩ = some (.int .i64 0) := (HM4.out).cell 1
      have d2 : World.cell? (w4) ⟨g2, 2, none⟩ = some (.int .i64 0) := (HM4.out).cell 2
      have d3 : World.cell? (w4) ⟨g2, 3, none⟩ = some (.int .i64 0) := (HM4.out).cell 3
      have d4 : World.cell? (w4) ⟨g2, 4, none⟩ = some (.int .i64 0) := (HM4.out).cell 4
      have d5 : World.cell? (w4) ⟨g2, 5, none⟩ = some (.int .i64 0) := (HM4.out).cell 5
      have d6 : World.cell? (w4) ⟨g2, 6, none⟩ = some (.slice none 0 0) := (HM4.out).cell 6
      have d7 : World.cell? (w4) ⟨g2, 7, none⟩ = some (.slice none 0 0) := (HM4.out).cell 7
      have d8 : World.cell? (w4) ⟨g2, 8, none⟩ = some (.slice none 0 0) := (HM4.out).cell 8
      have d9 : World.cell? (w4) ⟨g2, 9, none⟩ = some (.slice none 0 0) := (HM4.out).cell 9
      have f0 : World.cell? (w4) ⟨g4, 0, none⟩ = some (.int .i64 0) := (HY4.out).cell 0
      have f1 : World.cell? (w4) ⟨g4, 1, none⟩ = some (.int .i64 0) := (HY4.out).cell 1
      have f2 : World.cell? (w4) ⟨g4, 2, none⟩ = some (.int .i64 0) := (HY4.out).cell 2
      have f3 : World.cell? (w4) ⟨g4, 3, none⟩ = some (.int .i64 0) := (HY4.out).cell 3
      have f4 : World.cell? (w4) ⟨g4, 4, none⟩ = some (.int .i64 0) := (HY4.out).cell 4
      have f5 : World.cell? (w4) ⟨g4, 5, none⟩ = some (.int .i64 0) := (HY4.out).cell 5
      have f6 : World.cell? (w4) ⟨g4, 6, none⟩ = some (.slice none 0 0) := (HY4.out).cell 6
      have f7 : World.cell? (w4) ⟨g4, 7, none⟩ = some (.slice none 0 0) := (HY4.out).cell 7
      have f8 : World.cell? (w4) ⟨g4, 8, none⟩ = some (.slice none 0 0) := (HY4.out).cell 8
      have f9 : World.cell? (w4) ⟨g4, 9, none⟩ = some (.slice none 0 0) := (HY4.out).cell 9
      have KM := Lib.hid (keep_msg msZ msZ w4.heap.size w4 (msZ_in _ _) (msZ_in _ _) (Nat.le_refl _) (small_toks (by decide)))
      simp only [decide_true, msZ, List.length_nil] at KM
      go_wp2_with fail
      refine KM.out.mono ?_
      rintro e w5 ⟨rfl, hb5⟩
      have HB5 := Lib.hid (HB4.out.trans (hb5.mono HB4.out.size))
      have HM5 := Lib.hid (HM4.out.below hb5 HM4.out.lt)
      clear d0 d1 d2 d3 d4 d5 d6 d7 d8 d9
      clear f0 f1 f2 f3 f4 f5 f6 f7 f8 f9
      clear hb5 KM HB4 HM4 HY4 
      go_wp2_with fail
      refine (wakes6_any _).mono ?_
      rintro e wz ⟨rfl, hbz⟩
      have HQ := Lib.hid (HB5.out.trans (hbz.mono HB5.out.size))
      clear hbz
      go_wp2_with fail
      go_ret
      exact ⟨rfl, HQ.out⟩
theorem msgsParses_walk (A : Option Addr) (c : Nat) (zs : List Int) (w : World) (h : IsList .u8 w A zs c) :
    Calls Try.prog 4 #[.slice A zs.length c] w fun e w' => e = .returned (.bool true) ∧ Below w.heap.size w w' := by
  have hle : zs.length ≤ c := h.le
  have hm := h.most
  unfold maxLen at hm
  have hz : ∀ z ∈ zs, 0 ≤ z ∧ z ≤ 255 := fun z hz => wf_u8 (h.fits z hz)
  by_cases hb : zs.length ≤ 2000
  · exact msgsParses_in A c zs zs zs.length zs.length w rfl rfl hb (Or.inl ⟨hb, rfl⟩) hle (by omega) hz h.has
  · exact msgsParses_in A c zs (zs.take 2000) zs.length 2000 w rfl (by rw [List.length_take]; omega) (Nat.le_refl _) (Or.inr ⟨by omega, rfl⟩) hle (by omega) (fun z hzz => hz z (List.mem_of_mem_take hzz)) (bhas_head h.has)
end Go.Proofs.Ytbebfgfpdcdcoaa
