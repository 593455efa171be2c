/- The walk of MsgsAny: it returns true for any bytes, any messages, any numbers. -/
import Derived.Test.YtbegjadohamkkaaGreatOTwo
import Derived.Test.YtbegjadohamkkaaGreatOS9
import Derived.Test.YtbegjadohamkkaaGreatOS6
import Derived.Test.YtbegjadohamkkaaGreatOMsgKeep
import Derived.Test.YtbegjadohamkkaaGreatORefOpen6
namespace Go.Proofs.YtbegjadohamkkaaGreat
open Go.RowKit Go.Sort

theorem Mg.Short.small {m : Mg} (h : m.Short) : smallMs m :=
  ⟨by have := h.bt; omega, by have := h.vs; omega, by have := h.cs; omega, fun c hc => ⟨by have := h.each c hc; omega, by have := h.each c hc; omega⟩, by have := h.pl; omega,
    fun p hp => ⟨by have := (h.ps p hp).vs; omega, by have := (h.ps p hp).cs; omega, fun c hc => ⟨by have := (h.ps p hp).each c hc; omega, by have := (h.ps p hp).each c hc; omega⟩⟩⟩
def msO : Ms := ⟨⟨0, 0, 0, 0, 0, 0, [], [], [], []⟩, none, 0, none, 0, none, 0, none, 0⟩
theorem msO_in (w : World) (B : Nat) : msO.In w B := ⟨Has.nil _ _ _, Has.nil _ _ _, ⟨[], rfl, Has.nil _ _ _, by simp⟩, ⟨[], rfl, Has.nil _ _ _, by simp⟩⟩
/-- What stands while the law runs: two notaries and their block. -/
structure AnSt (w0 : World) (gt nb bm rb : Nat) (L : List Deed) (R : Nat → Prop) (wr : World) : Prop where
  low : Below w0.heap.size w0 wr
  two : Blk wr gt 30 #[.pointer (some ⟨nb, 0, none⟩), .pointer (some ⟨rb, 0, none⟩)]
  tw : Tw w0.heap.size nb bm rb L R wr
  gtR : ¬ R gt ∧ gt ≠ bm
section
variable {w0 wr w2 : World} {gt nb bm rb : Nat} {L L' : List Deed} {R R' : Nat → Prop}
theorem AnSt.below (h : AnSt w0 gt nb bm rb L R wr) (hb : Below wr.heap.size wr w2) : AnSt w0 gt nb bm rb L R w2 :=
  ⟨h.low.trans (hb.mono h.low.size), h.two.below hb h.two.lt, h.tw.below hb, h.gtR⟩
theorem AnSt.seal (h : AnSt w0 gt nb bm rb L R wr) (ht : Turn (fun k => R k ∨ k = bm) wr w2) (hT : Tw w0.heap.size nb bm rb L' R' w2) (hR : ∀ k, R' k → R k ∨ wr.heap.size ≤ k) : AnSt w0 gt nb bm rb L' R' w2 := by
  have h2 := h.two.lt
  refine ⟨h.low.trans (h.tw.low ht h.low.size), ht.blk h.two (fun e => e.elim h.gtR.1 h.gtR.2), hT, ⟨fun e => (hR _ e).elim h.gtR.1 (fun e => by omega), h.gtR.2⟩⟩
end
/-- What holds at a round's head. -/
structure AnR (w0 : World) (gt nb bm rb i : Nat) (wr : World) : Prop where
  ex : ∃ L R, AnSt w0 gt nb bm rb L R wr ∧ L.length ≤ i
theorem open_short {F : Mg → Bool} {zs : List Int} {l : List Deed} (hz : ∀ z ∈ zs, 0 ≤ z ∧ z ≤ 255) {m : Mg} {k : Int} (h : openS F zs l = some (m, k)) : m.Short := by
  unfold openS at h
  split at h
  · split at h
    · split at h
      · rename_i m' hm
        split at h
        · injection h with h
          injection h with h _
          subst h
          exact parse_short (fun z h => hz z (List.mem_of_mem_drop h)) hm
        · cases h
      · cases h
    · cases h
  · cases h
theorem msgL_len (L : List Deed) (m : Mg) : (msgL L m).length ≤ L.length + 1 := by
  unfold msgL
  split
  · unfold sealed; split
    · omega
    · rw [List.length_append]; exact Nat.le_refl _
  · omega
set_option maxHeartbeats 16000000 in
set_option maxRecDepth 100000 in
theorem msgsAny_in (A : Option Addr) (c : Nat) (zs : List Int) (n0 n : Nat) (A1 : Option Addr) (c1 : Nat) (L : List Ms) (a2 a3 : Int) (w : World) (hn : zs.length = n) (hn1 : n ≤ 1000) (hcase : (n0 ≤ 1000 ∧ n = n0) ∨ (1000 < n0 ∧ n = 1000)) (hc : n0 ≤ c) (hn9 : n0 ≤ 9223372036854775807)
    (hz : ∀ z ∈ zs, 0 ≤ z ∧ z ≤ 255) (hh : Has w w.heap.size A (u8s zs)) (hL : Has w w.heap.size A1 (L.flatMap Ms.cells)) (hLe : ∀ x ∈ L, x.Came w) (hLn : L.length ≤ 9223372036854775807) :
    Calls Tryz.prog 11 #[.slice A n0 c, .slice A1 L.length c1, .int .i64 a2, .int .i64 a3] w fun e w' => e = .returned (.bool true) ∧ Below w.heap.size w w' := by
  have HH := Lib.hid hh
  have HZ := Lib.hid hz
  have HN := Lib.hid hn
  have HLs := Lib.hid hL
  have HLe := Lib.hid hLe
  have hsl : (1000 < n0 → n = 1000) ∧ (n0 ≤ 1000 → n = n0) := by omega
  have hnc : n ≤ c := by omega
  clear hh hz hn hL hLe
  by_cases hbig : 1000 < n0
  case' pos =>
    obtain rfl : n = 1000 := hsl.1 hbig
    have t0 : decide ((1000 : Int) < (n0 : Int)) = true := decide_eq_true (by omega)
    have R1 : ∀ (w : World), (Instr.slice 39 (.slice A n0 c) none (some (.int .i64 1000)) none).run Tryz.prog w = .ok (.slice A 1000 c) w := fun w => bslice_head (w := w) A (n := n0) (c := c) (k := 1000) hnc
  case' neg =>
    obtain rfl : n = n0 := hsl.2 (by omega)
    have t0 : decide ((1000 : Int) < (n : Int)) = false := decide_eq_false (by omega)
  all_goals
    clear hsl hbig hcase
    go_enter Tryz.func11, Tryz.ntmps11
    go_wp2_with fail
    refine (begin_any _).mono ?_
    rintro e w1 ⟨nb, bm, rb, R, rfl, hT, hb1⟩
    have HB1 := Lib.hid hb1
    have HT1 := Lib.hid hT
    clear hT hb1 t0
    go_upto_region 6 with fail
    have HS0 := Lib.hid (show AnR w w1.heap.size nb bm rb 0 (w1.alloc (.cells #[.pointer (some ⟨nb, 0, none⟩), .pointer (some ⟨rb, 0, none⟩)] 30)) from ⟨[], R,
      ⟨HB1.out.alloc HB1.out.size _, Blk.new _ _ _, HT1.out.below ((Below.refl _ _).alloc (Nat.le_refl _) _), ⟨fun e => by have := (HT1.out.zone _ e).2; omega, fun e => by have := HT1.out.nt.lt.2; omega⟩⟩, Nat.le_refl _⟩)
    obtain ⟨w2, hw2⟩ : ∃ w1', w1.alloc (.cells #[.pointer (some ⟨nb, 0, none⟩), .pointer (some ⟨rb, 0, none⟩)] 30) = w1' := ⟨_, rfl⟩
    obtain ⟨gt, hgt⟩ : ∃ g, w1.heap.size = g := ⟨_, rfl⟩
    rw [hw2, hgt] at HS0
    rw [hw2, hgt]
    clear hw2 hgt HB1 HT1
    go_wp2_with fail
    go_loopw [11] (fun v wr => ∃ i : Nat, v = .int .i64 i ∧ i ≤ 6 ∧ i ≤ L.length ∧ Hid (AnR w gt nb bm rb i wr)) (fun v _ => 6 - (intOf v).toNat)
    case atStart => exact ⟨0, rfl, by omega, Nat.zero_le _, HS0⟩
    case round =>
      obtain ⟨i, rfl, hi6, hil, HR⟩ := hrel
      obtain ⟨Ld, Rr, hSt, hLd⟩ := HR.out.ex
      have HS := Lib.hid hSt
      have hLd2 : Ld.length ≤ 1000000 := by omega
      have HLd := Lib.hid hLd
      clear hSt HR hLd
      by_cases hlt : i < L.length ∧ i < 6
      case pos =>
        obtain ⟨hlt1, hlt2⟩ := hlt
        obtain ⟨ad, hA, _, c0, c1_, c2_, c3_, c4_, c5_, c6_, c7_, c8_, c9_⟩ := msg_at (HLs.out.below HS.out.low (Nat.le_refl _)) hlt1
        obtain ⟨x, hx⟩ : ∃ x, L[i] = x := ⟨_, rfl⟩
        have HX := Lib.hid (HLe.out x (hx ▸ List.getElem_mem hlt1))
        rw [hx] at c0 c1_ c2_ c3_ c4_ c5_ c6_ c7_ c8_ c9_
        subst hA
        have HHv := Lib.hid (heavy_msg x wr ((HX.out.in_.reads (Reads.below HS.out.low (Nat.le_refl _))).reads (Reads.more HS.out.low.size)))
        cases hv : heavyM x.m
        case true =>
          rw [hv] at HHv
          clear hv
          go_wp2_with fail
          refine HHv.out.mono ?_
          rintro e w3 ⟨rfl, hb3⟩
          have HS3 := Lib.hid (HS.out.below hb3)
          clear hb3 c0 c1_ c2_ c3_ c4_ c5_ c6_ c7_ c8_ c9_
          go_wp2_with fail
          go_roundw
          case rel => exact ⟨i + 1, by go_num, by omega, by omega, ⟨Ld, Rr, HS3.out, by have := HLd.out; omega⟩⟩
          case measure => simp [intOf]; omega
        rw [hv] at HHv
        have hlt := light_toks hv
        have hsz : 6 * x.m.toks.length ≤ 70368744177664 := by omega
        clear hv hlt
        go_wp2_with fail
        refine HHv.out.mono ?_
        rintro e w3 ⟨rfl, hb3⟩
        have HS3 := Lib.hid (HS.out.below hb3)
        clear hb3 c0 c1_ c2_ c3_ c4_ c5_ c6_ c7_ c8_ c9_ HHv HS
        obtain ⟨ad', hA', _, c0, c1_, c2_, c3_, c4_, c5_, c6_, c7_, c8_, c9_⟩ := msg_at (HLs.out.below HS3.out.low (Nat.le_refl _)) hlt1
        obtain rfl : ad = ad' := by injection hA'
        clear hA'
        rw [hx] at c0 c1_ c2_ c3_ c4_ c5_ c6_ c7_ c8_ c9_
        clear hx
        have t0 := HS3.out.two.cell 0
        have t1 := HS3.out.two.cell 1
        simp only [List.getElem?_toArray, List.getElem?_cons_zero, List.getElem?_cons_succ] at t0 t1
        go_wp2_with fail
        go_region_law (go_simp; go_at_call 38; refine (tmsg_any (w := w3.drew) (HS3.out.tw.drewN 1) hLd2 x ((HX.out.in_.reads (Reads.below (below_drewN HS3.out.low 1) (Nat.le_refl _))).reads (Reads.more HS3.out.low.size)) hsz HX.out.fr).mono ?_; rintro e w4 ⟨rfl, R4, hT4, ht4, hR4⟩)
        all_goals
          have HS4 := Lib.hid ((HS3.out.below (below_drewN (Below.refl _ _) 1)).seal ht4 hT4 hR4)
          have HL4 := Lib.hid (show (msgL Ld x.m).length ≤ i + 1 from Nat.le_trans (msgL_len _ _) (by have := HLd.out; omega))
          clear hT4 ht4 hR4 c0 c1_ c2_ c3_ c4_ c5_ c6_ c7_ c8_ c9_ t0 t1
          go_wp2_with fail
          go_roundw
          case rel => exact ⟨i + 1, by go_num, by omega, by omega, ⟨_, R4, HS4.out, HL4.out⟩⟩
          case measure => simp [intOf]; omega
      case neg =>
        have hcs : (i < L.length ∧ i = 6) ∨ i = L.length := by omega
        clear hlt
        have HNd := Lib.hid HS.out.tw.nd
        rcases hcs with ⟨hlt1, rfl⟩ | rfl
        case' inr => skip
        all_goals
          have t0 := HS.out.two.cell 0
          have t1 := HS.out.two.cell 1
          simp only [List.getElem?_toArray, List.getElem?_cons_zero, List.getElem?_cons_succ] at t0 t1
          go_wp2_with fail
          refine (open_with HS.out.tw.nt HN.out hnc (by omega) HZ.out HS.out.low.size (HH.out.below HS.out.low (Nat.le_refl _)) a2 a3 (fun m => formS m a2 a3) (fun y k i w' _ hp _ hy => mform_any y hy (parse_short (fun z hz => HZ.out z (List.mem_of_mem_drop hz)) hp) (wf_i64 (parse_from (fun z hz => HZ.out z (List.mem_of_mem_drop hz)) hp)).2 a2 a3)).mono ?_
          rintro e w5 ⟨hb5, hc5⟩
          have HS5 := Lib.hid (HS.out.below hb5)
          clear hb5 t0 t1 HS
          obtain ⟨o, ho⟩ : ∃ o, openS (fun m => formS m a2 a3) zs Ld = o := ⟨_, rfl⟩
          rw [ho] at hc5
          have HOo := Lib.hid ho
          rcases o with _ | ⟨m, k⟩
          case none =>
            clear ho
            rcases hc5 with ⟨y, k', ho, _⟩ | ⟨_, rfl⟩
            case inl => cases ho
            go_upto_region 12 with fail
            have hba : Below w5.heap.size w5 (w5.alloc (.cells #[.int .i64 0, .int .i64 0, .int .i64 0, .int .i64 0, .int .i64 0, .int .i64 0, .slice none 0 0, .slice none 0 0, .slice none 0 0, .slice none 0 0] 38)) := (Below.refl _ _).alloc (Nat.le_refl _) _
            have HS_w6 := Lib.hid (HS5.out.below hba)
            have HM_w6 := Lib.hid (Blk.new w5 38 #[.int .i64 0, .int .i64 0, .int .i64 0, .int .i64 0, .int .i64 0, .int .i64 0, .slice none 0 0, .slice none 0 0, .slice none 0 0, .slice none 0 0])
            obtain ⟨w6, hw6⟩ : ∃ w', w5.alloc (.cells #[.int .i64 0, .int .i64 0, .int .i64 0, .int .i64 0, .int .i64 0, .int .i64 0, .slice none 0 0, .slice none 0 0, .slice none 0 0, .slice none 0 0] 38) = w' := ⟨_, rfl⟩
            obtain ⟨g6, hg6⟩ : ∃ g, w5.heap.size = g := ⟨_, rfl⟩
            rw [hw6] at HS_w6 HM_w6 
            rw [hg6] at HM_w6
            rw [hw6, hg6]
            clear hba hw6 hg6
            clear HS5
            have t0 := HS_w6.out.two.cell 0
            have t1 := HS_w6.out.two.cell 1
            simp only [List.getElem?_toArray, List.getElem?_cons_zero, List.getElem?_cons_succ] at t0 t1
            go_wp2_with fail
            refine (ropen_any HS_w6.out.tw.rf HNd.out (fun k hk => (HS_w6.out.tw.zone k hk).2) HN.out hnc (by omega) HZ.out HS_w6.out.low.size (HH.out.below HS_w6.out.low (Nat.le_refl _)) a2 a3).mono ?_
            rintro e w7 ⟨hb7, hc7⟩
            rw [HOo.out] at hc7
            clear t0 t1
            have HS7 := Lib.hid (HS_w6.out.below hb7)
            have HM7 := Lib.hid (HM_w6.out.below hb7 HM_w6.out.lt)
            clear hb7 HS_w6 HM_w6
            rcases hc7 with ⟨v, k', ho, _⟩ | ⟨_, rfl⟩
            case inl => cases ho
            go_upto_region 13 with fail
            have hba : Below w7.heap.size w7 (w7.alloc (.cells #[.int .i64 0, .int .i64 0, .int .i64 0, .int .i64 0, .int .i64 0, .int .i64 0, .slice none 0 0, .slice none 0 0, .slice none 0 0, .slice none 0 0] 38)) := (Below.refl _ _).alloc (Nat.le_refl _) _
            have HS_w8 := Lib.hid (HS7.out.below hba)
            have HM_w8 := Lib.hid (Blk.new w7 38 #[.int .i64 0, .int .i64 0, .int .i64 0, .int .i64 0, .int .i64 0, .int .i64 0, .slice none 0 0, .slice none 0 0, .slice none 0 0, .slice none 0 0])
            have HM8 := Lib.hid (HM7.out.below hba HM7.out.lt)
            obtain ⟨w8, hw8⟩ : ∃ w', w7.alloc (.cells #[.int .i64 0, .int .i64 0, .int .i64 0, .int .i64 0, .int .i64 0, .int .i64 0, .slice none 0 0, .slice none 0 0, .slice none 0 0, .slice none 0 0] 38) = w' := ⟨_, rfl⟩
            obtain ⟨g8, hg8⟩ : ∃ g, w7.heap.size = g := ⟨_, rfl⟩
            rw [hw8] at HS_w8 HM_w8 HM8
            rw [hg8] at HM_w8
            rw [hw8, hg8]
            clear hba hw8 hg8
            clear HS7 HM7
            have KM := Lib.hid (keep_msg msO msO w8.heap.size w8 (msO_in _ _) (msO_in _ _) (Nat.le_refl _) (light_ms (by rfl)))
            rw [show decide (msO.m = msO.m) = true from decide_eq_true rfl] at KM
            have d0 := HM8.out.cell 0
            have d1 := HM8.out.cell 1
            have d2 := HM8.out.cell 2
            have d3 := HM8.out.cell 3
            have d4 := HM8.out.cell 4
            have d5 := HM8.out.cell 5
            have d6 := HM8.out.cell 6
            have d7 := HM8.out.cell 7
            have d8 := HM8.out.cell 8
            have d9 := HM8.out.cell 9
            simp only [List.getElem?_toArray, List.getElem?_cons_zero, List.getElem?_cons_succ] at d0 d1 d2 d3 d4 d5 d6 d7 d8 d9
            have f0 := HM_w8.out.cell 0
            have f1 := HM_w8.out.cell 1
            have f2 := HM_w8.out.cell 2
            have f3 := HM_w8.out.cell 3
            have f4 := HM_w8.out.cell 4
            have f5 := HM_w8.out.cell 5
            have f6 := HM_w8.out.cell 6
            have f7 := HM_w8.out.cell 7
            have f8 := HM_w8.out.cell 8
            have f9 := HM_w8.out.cell 9
            simp only [List.getElem?_toArray, List.getElem?_cons_zero, List.getElem?_cons_succ] at f0 f1 f2 f3 f4 f5 f6 f7 f8 f9
            go_wp2_with fail
            refine KM.out.mono ?_
            rintro e w9 ⟨rfl, hb9⟩
            clear d0 d1 d2 d3 d4 d5 d6 d7 d8 d9
            clear f0 f1 f2 f3 f4 f5 f6 f7 f8 f9
            have HB9 := Lib.hid (HS_w8.out.low.trans (hb9.mono HS_w8.out.low.size))
            clear hb9
            go_wp2_with fail
            refine (wakes6_any _).mono ?_
            rintro e wz ⟨rfl, hbz⟩
            have HBz := Lib.hid (HB9.out.trans (hbz.mono HB9.out.size))
            clear hbz
            go_wp2_with fail
            go_ret
            exact ⟨by rfl, HBz.out⟩
          have HSm := Lib.hid (Mg.Short.small (open_short HZ.out ho))
          clear ho
          rcases hc5 with ⟨y, k', ho, rfl, hown⟩ | ⟨ho, _⟩
          case inr => cases ho
          have hym : m = y.m := by injection ho with ho; injection ho
          have hk : k = k' := by injection ho with ho; injection ho
          subst hk
          have HYm := Lib.hid hym
          have HY5 := Lib.hid hown.in_
          clear ho hown hym
          go_upto_region 12 with fail
          have hba : Below w5.heap.size w5 (w5.alloc (.cells #[.int .i64 y.m.kd, .int .i64 y.m.fr, .int .i64 y.m.vw, .int .i64 y.m.ins, .int .i64 y.m.sq, .int .i64 y.m.rs, .slice y.A1 y.m.bt.length y.c1, .slice y.A2 y.m.vs.length y.c2, .slice y.A3 y.m.cs.length y.c3, .slice y.A4 y.m.ps.length y.c4] 38)) := (Below.refl _ _).alloc (Nat.le_refl _) _
          have HS_w6 := Lib.hid (HS5.out.below hba)
          have HM_w6 := Lib.hid (Blk.new w5 38 #[.int .i64 y.m.kd, .int .i64 y.m.fr, .int .i64 y.m.vw, .int .i64 y.m.ins, .int .i64 y.m.sq, .int .i64 y.m.rs, .slice y.A1 y.m.bt.length y.c1, .slice y.A2 y.m.vs.length y.c2, .slice y.A3 y.m.cs.length y.c3, .slice y.A4 y.m.ps.length y.c4])
          have HY6 := Lib.hid ((HY5.out.reads (Reads.below hba (Nat.le_refl _))).reads (Reads.more hba.size))
          obtain ⟨w6, hw6⟩ : ∃ w', w5.alloc (.cells #[.int .i64 y.m.kd, .int .i64 y.m.fr, .int .i64 y.m.vw, .int .i64 y.m.ins, .int .i64 y.m.sq, .int .i64 y.m.rs, .slice y.A1 y.m.bt.length y.c1, .slice y.A2 y.m.vs.length y.c2, .slice y.A3 y.m.cs.length y.c3, .slice y.A4 y.m.ps.length y.c4] 38) = w' := ⟨_, rfl⟩
          obtain ⟨g6, hg6⟩ : ∃ g, w5.heap.size = g := ⟨_, rfl⟩
          rw [hw6] at HS_w6 HM_w6 HY6
          rw [hg6] at HM_w6
          rw [hw6, hg6]
          clear hba hw6 hg6
          clear HS5 HY5
          have t0 := HS_w6.out.two.cell 0
          have t1 := HS_w6.out.two.cell 1
          simp only [List.getElem?_toArray, List.getElem?_cons_zero, List.getElem?_cons_succ] at t0 t1
          go_wp2_with fail
          refine (ropen_any HS_w6.out.tw.rf HNd.out (fun k hk => (HS_w6.out.tw.zone k hk).2) HN.out hnc (by omega) HZ.out HS_w6.out.low.size (HH.out.below HS_w6.out.low (Nat.le_refl _)) a2 a3).mono ?_
          rintro e w7 ⟨hb7, hc7⟩
          rw [HOo.out] at hc7
          clear t0 t1
          have HS7 := Lib.hid (HS_w6.out.below hb7)
          have HM7 := Lib.hid (HM_w6.out.below hb7 HM_w6.out.lt)
          have HY7 := Lib.hid ((HY6.out.reads (Reads.below hb7 (Nat.le_refl _))).reads (Reads.more hb7.size))
          clear hb7 HS_w6 HM_w6 HY6
          rcases hc7 with ⟨v, k', ho, rfl, hown⟩ | ⟨ho, _⟩
          case inr => cases ho
          have hvm : m = v.m := by injection ho with ho; injection ho
          have hk : k = k' := by injection ho with ho; injection ho
          subst hk
          have HVm := Lib.hid hvm
          have HV7 := Lib.hid hown.in_
          clear ho hown hvm
          go_upto_region 13 with fail
          have hba : Below w7.heap.size w7 (w7.alloc (.cells #[.int .i64 v.m.kd, .int .i64 v.m.fr, .int .i64 v.m.vw, .int .i64 v.m.ins, .int .i64 v.m.sq, .int .i64 v.m.rs, .slice v.A1 v.m.bt.length v.c1, .slice v.A2 v.m.vs.length v.c2, .slice v.A3 v.m.cs.length v.c3, .slice v.A4 v.m.ps.length v.c4] 38)) := (Below.refl _ _).alloc (Nat.le_refl _) _
          have HS_w8 := Lib.hid (HS7.out.below hba)
          have HM_w8 := Lib.hid (Blk.new w7 38 #[.int .i64 v.m.kd, .int .i64 v.m.fr, .int .i64 v.m.vw, .int .i64 v.m.ins, .int .i64 v.m.sq, .int .i64 v.m.rs, .slice v.A1 v.m.bt.length v.c1, .slice v.A2 v.m.vs.length v.c2, .slice v.A3 v.m.cs.length v.c3, .slice v.A4 v.m.ps.length v.c4])
          have HM8 := Lib.hid (HM7.out.below hba HM7.out.lt)
          have HY8 := Lib.hid ((HY7.out.reads (Reads.below hba (Nat.le_refl _))).reads (Reads.more hba.size))
          have HV8 := Lib.hid ((HV7.out.reads (Reads.below hba (Nat.le_refl _))).reads (Reads.more hba.size))
          obtain ⟨w8, hw8⟩ : ∃ w', w7.alloc (.cells #[.int .i64 v.m.kd, .int .i64 v.m.fr, .int .i64 v.m.vw, .int .i64 v.m.ins, .int .i64 v.m.sq, .int .i64 v.m.rs, .slice v.A1 v.m.bt.length v.c1, .slice v.A2 v.m.vs.length v.c2, .slice v.A3 v.m.cs.length v.c3, .slice v.A4 v.m.ps.length v.c4] 38) = w' := ⟨_, rfl⟩
          obtain ⟨g8, hg8⟩ : ∃ g, w7.heap.size = g := ⟨_, rfl⟩
          rw [hw8] at HS_w8 HM_w8 HM8 HY8 HV8
          rw [hg8] at HM_w8
          rw [hw8, hg8]
          clear hba hw8 hg8
          clear HS7 HM7 HY7 HV7
          have KM := Lib.hid (keep_msg y v w8.heap.size w8 HY8.out HV8.out (Nat.le_refl _) (by rw [← HYm.out]; exact HSm.out))
          rw [show decide (y.m = v.m) = true from decide_eq_true (HYm.out.symm.trans HVm.out)] at KM
          have d0 := HM8.out.cell 0
          have d1 := HM8.out.cell 1
          have d2 := HM8.out.cell 2
          have d3 := HM8.out.cell 3
          have d4 := HM8.out.cell 4
          have d5 := HM8.out.cell 5
          have d6 := HM8.out.cell 6
          have d7 := HM8.out.cell 7
          have d8 := HM8.out.cell 8
          have d9 := HM8.out.cell 9
          simp only [List.getElem?_toArray, List.getElem?_cons_zero, List.getElem?_cons_succ] at d0 d1 d2 d3 d4 d5 d6 d7 d8 d9
          have f0 := HM_w8.out.cell 0
          have f1 := HM_w8.out.cell 1
          have f2 := HM_w8.out.cell 2
          have f3 := HM_w8.out.cell 3
          have f4 := HM_w8.out.cell 4
          have f5 := HM_w8.out.cell 5
          have f6 := HM_w8.out.cell 6
          have f7 := HM_w8.out.cell 7
          have f8 := HM_w8.out.cell 8
          have f9 := HM_w8.out.cell 9
          simp only [List.getElem?_toArray, List.getElem?_cons_zero, List.getElem?_cons_succ] at f0 f1 f2 f3 f4 f5 f6 f7 f8 f9
          go_wp2_with fail
          refine KM.out.mono ?_
          rintro e w9 ⟨rfl, hb9⟩
          clear d0 d1 d2 d3 d4 d5 d6 d7 d8 d9
          clear f0 f1 f2 f3 f4 f5 f6 f7 f8 f9
          have HB9 := Lib.hid (HS_w8.out.low.trans (hb9.mono HS_w8.out.low.size))
          clear hb9
          go_wp2_with fail
          refine (wakes6_any _).mono ?_
          rintro e wz ⟨rfl, hbz⟩
          have HBz := Lib.hid (HB9.out.trans (hbz.mono HB9.out.size))
          clear hbz
          go_wp2_with fail
          go_ret
          exact ⟨by rfl, HBz.out⟩
theorem msgsAny_walk (A : Option Addr) (c : Nat) (zs : List Int) (A1 : Option Addr) (c1 : Nat) (L : List Ms) (a2 a3 : Int) (w : World) (h : IsList .u8 w A zs c) (hL : IsMsgs w A1 L c1) (_ : (Lit.int .i64 a2).wf = true) (_ : (Lit.int .i64 a3).wf = true) :
    Calls Tryz.prog 11 #[.slice A zs.length c, .slice A1 L.length c1, .int .i64 a2, .int .i64 a3] w fun e w' => e = .returned (.bool true) ∧ Below w.heap.size w w' := by
  have hle : zs.length ≤ c := h.le
  have hm := h.most
  have hm1 := hL.most
  have hl1 := hL.le
  unfold maxLen at hm hm1
  have hz : ∀ z ∈ zs, 0 ≤ z ∧ z ≤ 255 := fun z hz => wf_u8 (h.fits z hz)
  by_cases hb : zs.length ≤ 1000
  · exact msgsAny_in A c zs zs.length zs.length A1 c1 L a2 a3 w rfl hb (Or.inl ⟨hb, rfl⟩) hle (by omega) hz h.has hL.has hL.each (by omega)
  · exact msgsAny_in A c (zs.take 1000) zs.length 1000 A1 c1 L a2 a3 w (by rw [List.length_take]; omega) (Nat.le_refl _) (Or.inr ⟨by omega, rfl⟩) hle (by omega) (fun z hzz => hz z (List.mem_of_mem_take hzz)) (bhas_head h.has) hL.has hL.each (by omega)
end Go.Proofs.YtbegjadohamkkaaGreat
