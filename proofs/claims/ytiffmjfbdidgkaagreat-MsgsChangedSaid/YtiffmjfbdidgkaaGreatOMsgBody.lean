/- The contracts of msgs.Body and msgs.Envelope. -/
import Derived.Test.YtiffmjfbdidgkaaGreatOS3
import Derived.Test.YtiffmjfbdidgkaaGreatOS5
namespace Go.Proofs.YtiffmjfbdidgkaaGreat
open Go.RowKit

/-- One piece more. -/
theorem gr_more {w0 w1 w2 : World} {B g : Nat} {ts us : List Tok} (hk : Kept B g 5 w0 w1) (hk2 : Kept B g 5 w1 w2) (h : GrHas w2 B g (gput (capped ts) (bytesOf us))) :
    Kept B g 5 w0 w2 ∧ GrHas w2 B g (capped (ts ++ us)) := ⟨hk.trans hk2, by rw [← gput_capped]; exact h⟩
theorem Piece.small {w : World} {A : Option Addr} {n c : Nat} {b : Bool} {ts : List Tok} (h : Piece w A n c b (bytesOf ts)) (hs : 6 * ts.length ≤ 4503599627370496) : n ≤ 4503599627370496 := by
  rcases h with ⟨bs, h1, _, rfl, _⟩ | ⟨_, _, rfl⟩
  · have := bytesOf_len h1; omega
  · omega
theorem idx5_0 (a b c d e : Int) (w : World) : (Instr.index 94 (.agg #[.int .i64 a, .int .i64 b, .int .i64 c, .int .i64 d, .int .i64 e]) (.int .i64 0)).run Tryz.prog w = .ok (.int .i64 a) w := by kernel_rfl
theorem idx5_1 (a b c d e : Int) (w : World) : (Instr.index 94 (.agg #[.int .i64 a, .int .i64 b, .int .i64 c, .int .i64 d, .int .i64 e]) (.int .i64 1)).run Tryz.prog w = .ok (.int .i64 b) w := by kernel_rfl
theorem idx5_2 (a b c d e : Int) (w : World) : (Instr.index 94 (.agg #[.int .i64 a, .int .i64 b, .int .i64 c, .int .i64 d, .int .i64 e]) (.int .i64 2)).run Tryz.prog w = .ok (.int .i64 c) w := by kernel_rfl
theorem idx5_3 (a b c d e : Int) (w : World) : (Instr.index 94 (.agg #[.int .i64 a, .int .i64 b, .int .i64 c, .int .i64 d, .int .i64 e]) (.int .i64 3)).run Tryz.prog w = .ok (.int .i64 d) w := by kernel_rfl
theorem idx5_4 (a b c d e : Int) (w : World) : (Instr.index 94 (.agg #[.int .i64 a, .int .i64 b, .int .i64 c, .int .i64 d, .int .i64 e]) (.int .i64 4)).run Tryz.prog w = .ok (.int .i64 e) w := by kernel_rfl
def Mg.five (m : Mg) : List Tok := [.num m.kd, .num m.fr, .num m.vw, .num m.ins, .num m.sq]
/-- What holds at the head of the loop of numbers: these have been put. -/
structure BoSt (w0 : World) (g : Nat) (m : Mg) (k : Nat) (wr : World) : Prop where
  kept : Kept g g 5 w0 wr
  has : GrHas wr g g (capped (m.five.take k))
theorem BoSt.next {w0 wr w1 w2 : World} {g k : Nat} {m : Mg} {t : Tok} (h : BoSt w0 g m k wr) (hb : Below wr.heap.size wr w1) (hk : Kept g g 5 w1 w2) (hg : GrHas w2 g g (gput (capped (m.five.take k)) (bytesOf [t]))) (ht : m.five.take (k + 1) = m.five.take k ++ [t]) : BoSt w0 g m (k + 1) w2 :=
  ⟨(h.kept.trans (Kept.of_below hb rfl _ _ _)).trans hk, by rw [ht, ← gput_capped]; exact hg⟩
set_option maxHeartbeats 4000000 in
set_option maxRecDepth 100000 in
theorem body_any (x : Ms) (w : World) (h : x.In w w.heap.size) (hsz : 6 * x.m.toks.length ≤ 70368744177664) :
    Calls Tryz.prog 27 #[.agg #[.int .i64 x.m.kd, .int .i64 x.m.fr, .int .i64 x.m.vw, .int .i64 x.m.ins, .int .i64 x.m.sq, .int .i64 x.m.rs, .slice x.A1 x.m.bt.length x.c1, .slice x.A2 x.m.vs.length x.c2, .slice x.A3 x.m.cs.length x.c3, .slice x.A4 x.m.ps.length x.c4]] w (MsgPost (bodyM x.m) w) := by
  have hsz : 6 * (6 + ((listToks Rq.toks x.m.bt).length + ((listToks Vt.toks x.m.vs).length + ((listToks Ct.toks x.m.cs).length + (listToks Pt.toks x.m.ps).length)))) ≤ 70368744177664 := by
    simp only [Mg.toks, Mg.head, List.length_append, List.length_cons, List.length_nil] at hsz
    omega
  have hb0 : Below w.heap.size w ((w.alloc (.cells #[.int .i64 x.m.kd, .int .i64 x.m.fr, .int .i64 x.m.vw, .int .i64 x.m.ins, .int .i64 x.m.sq, .int .i64 x.m.rs, .slice x.A1 x.m.bt.length x.c1, .slice x.A2 x.m.vs.length x.c2, .slice x.A3 x.m.cs.length x.c3, .slice x.A4 x.m.ps.length x.c4] 35)).alloc (.cells #[.slice none 0 0, .bool false] 93)) := ((Below.refl _ w).alloc (Nat.le_refl _) _).alloc (by simp) _
  have HB0 := Lib.hid hb0
  have HI := Lib.hid ((h.reads (Reads.below hb0 (Nat.le_refl _))).reads (Reads.more (B' := w.heap.size + 1) (Nat.le_succ _)))
  have HH0 := Lib.hid (show GrHas ((w.alloc (.cells #[.int .i64 x.m.kd, .int .i64 x.m.fr, .int .i64 x.m.vw, .int .i64 x.m.ins, .int .i64 x.m.sq, .int .i64 x.m.rs, .slice x.A1 x.m.bt.length x.c1, .slice x.A2 x.m.vs.length x.c2, .slice x.A3 x.m.cs.length x.c3, .slice x.A4 x.m.ps.length x.c4] 35)).alloc (.cells #[.slice none 0 0, .bool false] 93)) (w.heap.size + 1) (w.heap.size + 1) (capped []) from by
    have := GrHas.new (w.alloc (.cells #[.int .i64 x.m.kd, .int .i64 x.m.fr, .int .i64 x.m.vw, .int .i64 x.m.ins, .int .i64 x.m.sq, .int .i64 x.m.rs, .slice x.A1 x.m.bt.length x.c1, .slice x.A2 x.m.vs.length x.c2, .slice x.A3 x.m.cs.length x.c3, .slice x.A4 x.m.ps.length x.c4] 35))
    rw [show (w.alloc (.cells #[.int .i64 x.m.kd, .int .i64 x.m.fr, .int .i64 x.m.vw, .int .i64 x.m.ins, .int .i64 x.m.sq, .int .i64 x.m.rs, .slice x.A1 x.m.bt.length x.c1, .slice x.A2 x.m.vs.length x.c2, .slice x.A3 x.m.cs.length x.c3, .slice x.A4 x.m.ps.length x.c4] 35)).heap.size = w.heap.size + 1 by simp] at this
    exact this)
  have HX0 := Lib.hid (show Blk ((w.alloc (.cells #[.int .i64 x.m.kd, .int .i64 x.m.fr, .int .i64 x.m.vw, .int .i64 x.m.ins, .int .i64 x.m.sq, .int .i64 x.m.rs, .slice x.A1 x.m.bt.length x.c1, .slice x.A2 x.m.vs.length x.c2, .slice x.A3 x.m.cs.length x.c3, .slice x.A4 x.m.ps.length x.c4] 35)).alloc (.cells #[.slice none 0 0, .bool false] 93)) w.heap.size 35 #[.int .i64 x.m.kd, .int .i64 x.m.fr, .int .i64 x.m.vw, .int .i64 x.m.ins, .int .i64 x.m.sq, .int .i64 x.m.rs, .slice x.A1 x.m.bt.length x.c1, .slice x.A2 x.m.vs.length x.c2, .slice x.A3 x.m.cs.length x.c3, .slice x.A4 x.m.ps.length x.c4] from (Blk.new w _ _).alloc _)
  clear h hb0
  go_enter Tryz.func27, Tryz.ntmps27
  go_wp2_with fail
  obtain ⟨w0, hw0⟩ : ∃ w0, ((w.alloc (.cells #[.int .i64 x.m.kd, .int .i64 x.m.fr, .int .i64 x.m.vw, .int .i64 x.m.ins, .int .i64 x.m.sq, .int .i64 x.m.rs, .slice x.A1 x.m.bt.length x.c1, .slice x.A2 x.m.vs.length x.c2, .slice x.A3 x.m.cs.length x.c3, .slice x.A4 x.m.ps.length x.c4] 35)).alloc (.cells #[.slice none 0 0, .bool false] 93)) = w0 := ⟨_, rfl⟩
  rw [hw0] at HB0 HI HH0 HX0 ⊢
  have HS0 := Lib.hid (show w.heap.size + 1 ≤ w0.heap.size from by rw [← hw0]; simp)
  clear hw0
  go_loopw [18] (fun v wr => ∃ k : Nat, v = .int .i64 k ∧ k ≤ 5 ∧ Hid (BoSt w0 (w.heap.size + 1) x.m k wr)) (fun v _ => 5 - (intOf v).toNat)
  case atStart => exact ⟨0, rfl, by omega, Kept.refl _ _ _ _, HH0.out⟩
  case round =>
    obtain ⟨k, rfl, hk, HT⟩ := hrel
    have hS : w.heap.size + 1 ≤ wr.heap.size := Nat.le_trans HS0.out HT.out.kept.size
    by_cases hlt : k < 5
    · have hcs : k = 0 ∨ k = 1 ∨ k = 2 ∨ k = 3 ∨ k = 4 := by omega
      rcases hcs with rfl | rfl | rfl | rfl | rfl
      all_goals
        have Q0 := idx5_0
        have Q1 := idx5_1
        have Q2 := idx5_2
        have Q3 := idx5_3
        have Q4 := idx5_4
        go_wp2_with fail
        refine (num_piece _ _).mono ?_
        rintro e w1 ⟨hb, A5, n5, c5, b5, rfl, hp⟩
        have hsm := hp.small (by simp)
        have HB := Lib.hid hb
        have HP := Lib.hid hp
        clear hb hp
        go_wp2_with fail
        refine (gr_put (HT.out.has.kept HB.out) HP.out hsm (Nat.le_trans hS HB.out.size)).mono ?_
        rintro e w2 ⟨rfl, hk2, hg2⟩
        have HN := Lib.hid (HT.out.next HB.out hk2 hg2 rfl)
        clear hk2 hg2
        go_wp2_with fail
        go_roundw
        case rel => first | exact ⟨1, by go_num, by decide, HN.out⟩ | exact ⟨2, by go_num, by decide, HN.out⟩ | exact ⟨3, by go_num, by decide, HN.out⟩ | exact ⟨4, by go_num, by decide, HN.out⟩ | exact ⟨5, by go_num, by decide, HN.out⟩
        case measure => simp [intOf]
    · obtain rfl : k = 5 := by omega
      have HK0 := Lib.hid HT.out.kept
      have HH1 := Lib.hid (show GrHas wr (w.heap.size + 1) (w.heap.size + 1) (capped x.m.five) from HT.out.has)
      have HS1 := Lib.hid hS
      have d5 : wr.cell? ⟨w.heap.size, 5, none⟩ = some (.int .i64 x.m.rs) := HK0.out.cellB (Nat.le_refl _) (HX0.out.cell 5) (by simp)
      clear HT hlt hk HS0 hS
      go_wp2_with fail
      refine (sgn_piece x.m.rs _).mono ?_
      rintro e w1 ⟨hb, A5, n5, c5, b5, rfl, hp⟩
      have hsm := hp.small (by simp)
      have HB := Lib.hid hb
      have HP := Lib.hid hp
      clear hb hp d5
      go_wp2_with fail
      refine (gr_put (HH1.out.kept HB.out) HP.out hsm (Nat.le_trans HS1.out HB.out.size)).mono ?_
      rintro e w2 ⟨rfl, hk2, hg2⟩
      have hm := gr_more (HK0.out.trans (Kept.of_below HB.out rfl _ _ _)) hk2 hg2
      have hS2 := Nat.le_trans (Nat.le_trans HS1.out HB.out.size) hk2.size
      have d6 : w2.cell? ⟨w.heap.size, 6, none⟩ = some (.slice x.A1 x.m.bt.length x.c1) := hm.1.cellB (Nat.le_refl _) (HX0.out.cell 6) (by simp)
      clear HK0 HH1 HS1 HB HP hsm hk2 hg2
      have HK0 := Lib.hid hm.1
      have HH1 := Lib.hid hm.2
      have HS1 := Lib.hid hS2
      clear hm hS2
      clear wr
      go_wp2_with fail
      refine ((pack_batch x.m.bt x.A1 x.c1 _ ((HK0.out.has (Nat.le_refl _) HI.out.bt).more HS1.out) (by omega)).mono fun _ _ h => h.piece).mono ?_
      rintro e w1 ⟨hb, A5, n5, c5, b5, rfl, hp⟩
      have hsm := hp.small (by omega)
      have HB := Lib.hid hb
      have HP := Lib.hid hp
      clear hb hp d6
      go_wp2_with fail
      refine (gr_put (HH1.out.kept HB.out) HP.out hsm (Nat.le_trans HS1.out HB.out.size)).mono ?_
      rintro e w2 ⟨rfl, hk2, hg2⟩
      have hm := gr_more (HK0.out.trans (Kept.of_below HB.out rfl _ _ _)) hk2 hg2
      have hS2 := Nat.le_trans (Nat.le_trans HS1.out HB.out.size) hk2.size
      have d7 : w2.cell? ⟨w.heap.size, 7, none⟩ = some (.slice x.A2 x.m.vs.length x.c2) := hm.1.cellB (Nat.le_refl _) (HX0.out.cell 7) (by simp)
      clear HK0 HH1 HS1 HB HP hsm hk2 hg2
      have HK0 := Lib.hid hm.1
      have HH1 := Lib.hid hm.2
      have HS1 := Lib.hid hS2
      clear hm hS2
      skip
      go_wp2_with fail
      refine ((pack_votes x.m.vs x.A2 x.c2 _ ((HK0.out.has (Nat.le_refl _) HI.out.vs).more HS1.out) (by omega)).mono fun _ _ h => h.piece).mono ?_
      rintro e w1 ⟨hb, A5, n5, c5, b5, rfl, hp⟩
      have hsm := hp.small (by omega)
      have HB := Lib.hid hb
      have HP := Lib.hid hp
      clear hb hp d7
      go_wp2_with fail
      refine (gr_put (HH1.out.kept HB.out) HP.out hsm (Nat.le_trans HS1.out HB.out.size)).mono ?_
      rintro e w2 ⟨rfl, hk2, hg2⟩
      have hm := gr_more (HK0.out.trans (Kept.of_below HB.out rfl _ _ _)) hk2 hg2
      have hS2 := Nat.le_trans (Nat.le_trans HS1.out HB.out.size) hk2.size
      have d8 : w2.cell? ⟨w.heap.size, 8, none⟩ = some (.slice x.A3 x.m.cs.length x.c3) := hm.1.cellB (Nat.le_refl _) (HX0.out.cell 8) (by simp)
      clear HK0 HH1 HS1 HB HP hsm hk2 hg2
      have HK0 := Lib.hid hm.1
      have HH1 := Lib.hid hm.2
      have HS1 := Lib.hid hS2
      clear hm hS2
      skip
      go_wp2_with fail
      refine ((pack_certs x.m.cs x.A3 x.c3 _ ((HI.out.cs.reads (Reads.kept HK0.out (Nat.le_refl _))).reads (Reads.more HS1.out)) (by omega)).mono fun _ _ h => h.piece).mono ?_
      rintro e w1 ⟨hb, A5, n5, c5, b5, rfl, hp⟩
      have hsm := hp.small (by omega)
      have HB := Lib.hid hb
      have HP := Lib.hid hp
      clear hb hp d8
      go_wp2_with fail
      refine (gr_put (HH1.out.kept HB.out) HP.out hsm (Nat.le_trans HS1.out HB.out.size)).mono ?_
      rintro e w2 ⟨rfl, hk2, hg2⟩
      have hm := gr_more (HK0.out.trans (Kept.of_below HB.out rfl _ _ _)) hk2 hg2
      have hS2 := Nat.le_trans (Nat.le_trans HS1.out HB.out.size) hk2.size
      have d9 : w2.cell? ⟨w.heap.size, 9, none⟩ = some (.slice x.A4 x.m.ps.length x.c4) := hm.1.cellB (Nat.le_refl _) (HX0.out.cell 9) (by simp)
      clear HK0 HH1 HS1 HB HP hsm hk2 hg2
      have HK0 := Lib.hid hm.1
      have HH1 := Lib.hid hm.2
      have HS1 := Lib.hid hS2
      clear hm hS2
      skip
      go_wp2_with fail
      refine ((pack_parts x.m.ps x.A4 x.c4 _ ((HI.out.ps.reads (Reads.kept HK0.out (Nat.le_refl _))).reads (Reads.more HS1.out)) (by omega)).mono fun _ _ h => h.piece).mono ?_
      rintro e w1 ⟨hb, A5, n5, c5, b5, rfl, hp⟩
      have hsm := hp.small (by omega)
      have HB := Lib.hid hb
      have HP := Lib.hid hp
      clear hb hp d9
      go_wp2_with fail
      refine (gr_put (HH1.out.kept HB.out) HP.out hsm (Nat.le_trans HS1.out HB.out.size)).mono ?_
      rintro e w2 ⟨rfl, hk2, hg2⟩
      have hm := gr_more (HK0.out.trans (Kept.of_below HB.out rfl _ _ _)) hk2 hg2
      have hS2 := Nat.le_trans (Nat.le_trans HS1.out HB.out.size) hk2.size
      clear HK0 HH1 HS1 HB HP hsm hk2 hg2
      have HK0 := Lib.hid hm.1
      have HH1 := Lib.hid hm.2
      have HS1 := Lib.hid hS2
      clear hm hS2
      skip
      have HT := Lib.hid (show capped (((((x.m.five ++ [Tok.sgn x.m.rs]) ++ listToks Rq.toks x.m.bt) ++ listToks Vt.toks x.m.vs) ++ listToks Ct.toks x.m.cs) ++ listToks Pt.toks x.m.ps) = bodyM x.m from by
        rw [bodyM_is]
        congr 1
        simp [Mg.toks, Mg.head, Mg.five])
      rw [HT.out] at HH1
      have HB := Lib.hid (HB0.out.trans (HK0.out.below (Nat.le_refl _) (Nat.le_succ _) (by have := HB0.out.size; omega)))
      go_wp2_with fail
      refine (gr_told HH1.out).mono ?_
      rintro e w3 ⟨rfl, ⟨bs, A2, c2, hst, rfl, ho⟩ | ⟨hst, rfl⟩⟩
      all_goals
        have HR := Lib.hid hst
        (try have HO := Lib.hid ho)
        clear hst
        (try clear ho)
        go_wp2_with fail
        go_ret2
        first
          | exact ⟨HB.out, Or.inl ⟨bs, A2, c2, HR.out, rfl, own_down HO.out (Nat.le_succ _)⟩⟩
          | exact ⟨HB.out, Or.inr ⟨HR.out, rfl⟩⟩
set_option maxHeartbeats 2000000 in
theorem envelope_any (k : Int) {A : Option Addr} {n c : Nat} {zs : List Int} (hn : zs.length = n) (hm : n ≤ 4503599627370496) (w : World) (hh : Has w w.heap.size A (u8s zs)) (hnil : A = none → c = 0) :
    Calls Tryz.prog 34 #[.int .i64 k, .slice A n c] w (MsgPost (envS k zs) w) := by
  have hb0 : Below w.heap.size w (w.alloc (.cells #[.slice none 0 0, .bool false] 93)) := (Below.refl _ w).alloc (Nat.le_refl _) _
  have HB0 := Lib.hid hb0
  have HI := Lib.hid (hh.below hb0 (Nat.le_refl _))
  have HH0 := Lib.hid (GrHas.new w)
  have HS0 := Lib.hid (show w.heap.size ≤ (w.alloc (.cells #[.slice none 0 0, .bool false] 93)).heap.size by simp)
  have HN := Lib.hid hn
  have HL := Lib.hid hnil
  clear hh hb0 hn hnil
  go_enter Tryz.func34, Tryz.ntmps34
  go_wp2_with fail
  obtain ⟨w0, hw0⟩ : ∃ w0, (w.alloc (.cells #[.slice none 0 0, .bool false] 93)) = w0 := ⟨_, rfl⟩
  rw [hw0] at HB0 HI HH0 HS0 ⊢
  clear hw0
  refine (num_piece _ _).mono ?_
  rintro e w1 ⟨hb, A5, n5, c5, b5, rfl, hp⟩
  have hsm := hp.small (by simp)
  have HB := Lib.hid hb
  have HP := Lib.hid hp
  have HS1 := Lib.hid (Nat.le_trans HS0.out hb.size)
  clear hb hp
  go_wp2_with fail
  refine (gr_put (HH0.out.kept HB.out) HP.out hsm HS1.out).mono ?_
  rintro e w2 ⟨rfl, hk2, hg2⟩
  have hk := (Kept.of_below HB.out rfl w.heap.size w.heap.size 5).trans hk2
  have HK2 := Lib.hid hk
  have HG2 := Lib.hid (show GrHas w2 w.heap.size w.heap.size (capped [.num k]) from by have := gput_capped [] [.num k]; rw [this] at hg2; exact hg2)
  have HS2 := Lib.hid (Nat.le_trans HS0.out hk.size)
  have HI2 := Lib.hid (hk.has (Nat.le_refl _) HI.out)
  clear hk2 hg2 hk HB HP hsm HH0
  go_wp2_with fail
  refine (gr_put (o := some zs) HG2.out (Or.inl ⟨zs, rfl, rfl, HN.out, HI2.out.more HS2.out, HL.out⟩) hm HS2.out).mono ?_
  rintro e w3 ⟨rfl, hk3, hg3⟩
  have HK3 := Lib.hid (HK2.out.trans hk3)
  have HG3 := Lib.hid hg3
  have HBz := Lib.hid (HB0.out.trans (HK3.out.below (Nat.le_refl _) (Nat.le_refl _) HS0.out))
  clear hk3 hg3
  go_wp2_with fail
  refine (gr_told HG3.out).mono ?_
  rintro e w4 ⟨rfl, ⟨bs, A2, c2, hst, rfl, ho⟩ | ⟨hst, rfl⟩⟩
  all_goals
    have HR := Lib.hid hst
    (try have HO := Lib.hid ho)
    clear hst
    (try clear ho)
    go_wp2_with fail
    go_ret2
    first
      | exact ⟨HBz.out, Or.inl ⟨bs, A2, c2, HR.out, rfl, HO.out⟩⟩
      | exact ⟨HBz.out, Or.inr ⟨HR.out, rfl⟩⟩
end Go.Proofs.YtiffmjfbdidgkaaGreat
