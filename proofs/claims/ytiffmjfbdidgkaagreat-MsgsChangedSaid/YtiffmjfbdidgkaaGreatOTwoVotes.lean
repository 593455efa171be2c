/- The contract of the law's own Votes: a quorum's votes, each with its node's seal (closure psephos/psephoslaw06.MsgsChanged$1). -/
import Derived.Test.YtiffmjfbdidgkaaGreatOS9
import Derived.Test.YtiffmjfbdidgkaaGreatOS5
import Derived.Test.YtiffmjfbdidgkaaGreatOS0
import Derived.Test.YtiffmjfbdidgkaaGreatOS1
import Derived.Deep.RegionLaw
import Derived.Deep.DeepCutAuto
import Derived.RegionTactic
namespace Go.Proofs.YtiffmjfbdidgkaaGreat
open Go.RowKit Go.Sort

theorem voS_l2 (ms : Int → Mg) (f s : Nat) (L0 : List Deed) : ∀ n, L0.length ≤ 1000 → (voS ms f s L0 n).2.length ≤ 1000 + n
  | 0, h => h
  | i + 1, h => by
    have h1 := voS_l2 ms f s L0 i h
    have h2 : (msgL (voS ms f s L0 i).2 (ms (seatN f s i : Int))).length ≤ (voS ms f s L0 i).2.length + 1 := by
      unfold msgL
      split
      · unfold sealed; split
        · omega
        · rw [List.length_append]; exact Nat.le_refl _
      · omega
    show (msgL (voS ms f s L0 i).2 (ms (seatN f s i : Int))).length ≤ _
    omega
/-- What stands at a round's head: votes so far, both notaries. -/
structure VoSt (w0 : World) (B nb bm rb : Nat) (R0 : Nat → Prop) (L : List Deed) (V : List Vt) (v : Value) (R : Nat → Prop) (wr : World) : Prop where
  turn : Turn (fun k => R0 k ∨ k = bm) w0 wr
  two : Blk wr w0.heap.size 26 #[.pointer (some ⟨nb, 0, none⟩), .pointer (some ⟨rb, 0, none⟩)]
  tw : Tw B nb bm rb L R wr
  rz : ∀ k, R k → R0 k ∨ w0.heap.size < k
  own : wr.ownsRow (w0.heap.size + 1) 39 2 v V.length (voteCells V)
  vR : ∀ g, v.ownBlock = some g → ¬ R g
section
variable {w0 wr w2 : World} {B nb bm rb : Nat} {R0 R R' : Nat → Prop} {L L' : List Deed} {V : List Vt} {v : Value}
theorem VoSt.below (h : VoSt w0 B nb bm rb R0 L V v R wr) (hb : Below wr.heap.size wr w2) : VoSt w0 B nb bm rb R0 L V v R w2 :=
  ⟨h.turn.trans (Turn.of_below hb), h.two.below hb h.two.lt, h.tw.below hb, h.rz, below_own h.own hb (Nat.le_refl _), h.vR⟩
theorem VoSt.seal (h : VoSt w0 B nb bm rb R0 L V v R wr) (hR0 : ∀ k, R0 k → k < w0.heap.size) (hbm : bm < w0.heap.size) (ht : Turn (fun k => R k ∨ k = bm) wr w2) (hT : Tw B nb bm rb L' R' w2) (hR : ∀ k, R' k → R k ∨ wr.heap.size ≤ k) : VoSt w0 B nb bm rb R0 L' V v R' w2 := by
  have h1 := h.two.lt
  have h2 : ¬ R w0.heap.size := fun e => (h.rz _ e).elim (fun e => by have := hR0 _ e; omega) (fun e => by omega)
  have hg : ∀ g, v.ownBlock = some g → ¬ (R g ∨ g = bm) := fun g e => by
    have h3 := (h.own.lt g e).1
    have h4 := h.vR g e
    rintro (h5 | h5)
    · exact h4 h5
    · omega
  refine ⟨((h.turn.mono (Z' := fun k => (R0 k ∨ k = bm) ∨ w0.heap.size ≤ k) (fun k _ hk => Or.inl hk)).trans (ht.mono (Z' := fun k => (R0 k ∨ k = bm) ∨ w0.heap.size ≤ k) (fun k _ hk => ?_))).mono (fun k hk hz => hz.elim id (fun e => by omega)), ht.blk h.two (fun e => e.elim h2 (fun e => by omega)), hT, fun k hk => ?_, ht.own h.own hg, fun g e => ?_⟩
  · rcases hk with hk | hk
    · rcases h.rz k hk with e | e
      · exact Or.inl (Or.inl e)
      · exact Or.inr (by omega)
    · exact Or.inl (Or.inr hk)
  · rcases hR k hk with e | e
    · exact h.rz k e
    · exact Or.inr (by omega)
  · intro hr
    rcases hR g hr with e' | e'
    · exact h.vR g e e'
    · have := (h.own.lt g e).2
      omega
theorem VoSt.put {d : Vt} {v2 : Value} (h : VoSt w0 B nb bm rb R0 L V v R wr) (hnb : nb < w0.heap.size) (hbm : bm < w0.heap.size) (hg : wr.grownBy w2 v.ownBlock)
    (ho : w2.ownsRow (w0.heap.size + 1) 39 2 v2 (V.length + 1) (voteCells V ++ [.int .i64 d.nd, .int .i64 d.sg])) (hl : v2.ownBlock = v.ownBlock ∨ v2.ownBlock = some wr.heap.size) : VoSt w0 B nb bm rb R0 L (V ++ [d]) v2 R w2 := by
  have hlt : ∀ g, v.ownBlock = some g → w0.heap.size < g := fun g e => by have := (h.own.lt g e).1; omega
  have ht : Turn (fun k => v.ownBlock = some k) wr w2 := Turn.grown (Turn.refl _ wr) hg (fun k hk _ => hk)
  refine ⟨Turn.grown h.turn hg (fun k hk hk2 => by have := hlt k hk; omega), ht.blk h.two (fun e => by have := hlt _ e; omega), h.tw.turn ht (fun k _ hk => ⟨h.vR k hk, by have := hlt k hk; omega, by have := hlt k hk; omega⟩), h.rz, ?_, fun g e => ?_⟩
  · rw [List.length_append, show voteCells (V ++ [d]) = voteCells V ++ [.int .i64 d.nd, .int .i64 d.sg] by simp [voteCells, Vt.cells]]
    exact ho
  · rcases hl with e' | e'
    · exact h.vR g (e'.symm.trans e)
    · rw [e'] at e
      cases e
      intro hr
      have := (h.tw.zone _ hr).2
      omega
end
set_option maxHeartbeats 8000000 in
set_option maxRecDepth 100000 in
theorem tvotes_any {w : World} {B nb bm rb : Nat} {L : List Deed} {R : Nat → Prop} (h : Tw B nb bm rb L R w) (hL : L.length ≤ 1000) (f : Nat) (hf : 1 ≤ f ∧ f ≤ 4) (sk : Int) (hsk : -9223372036854775808 ≤ sk ∧ sk ≤ 9223372036854775807) (caps : Array Value) (ms : Int → Mg) (hms : ∀ nd, 6 * (ms nd).toks.length ≤ 70368744177664) (hfr : ∀ nd, 0 ≤ nd → nd < 13 → fit (ms nd).fr)
    (HC : ∀ (nd : Int) w', Turn (fun k => R k ∨ k = bm) w w' → Calls Tryz.prog 7 (#[.int .i64 nd] ++ caps) w' fun e w2 => ∃ x : Ms, e = .returned (.agg #[.int .i64 x.m.kd, .int .i64 x.m.fr, .int .i64 x.m.vw, .int .i64 x.m.ins, .int .i64 x.m.sq, .int .i64 x.m.rs, .slice x.A1 x.m.bt.length x.c1, .slice x.A2 x.m.vs.length x.c2, .slice x.A3 x.m.cs.length x.c3, .slice x.A4 x.m.ps.length x.c4]) ∧ x.m = ms nd ∧ x.In w2 w2.heap.size ∧ Below w'.heap.size w' w2) :
    Calls Tryz.prog 6 #[.agg #[.pointer (some ⟨nb, 0, none⟩), .pointer (some ⟨rb, 0, none⟩)], .int .i64 f, .int .i64 sk, .func (.func 7) #[] caps] w fun e w' => ∃ v R', e = .returned v ∧ VoSt w B nb bm rb R (voS ms f (sk % ((f : Int) + 1)).toNat L (2 * f + 1)).2 (voS ms f (sk % ((f : Int) + 1)).toNat L (2 * f + 1)).1 v R' w' := by
  obtain ⟨s, hs, hs2⟩ : ∃ s : Nat, sk % ((f : Int) + 1) = (s : Int) ∧ s ≤ f := ⟨(sk % ((f : Int) + 1)).toNat, by have := Int.emod_nonneg sk (show ((f : Int) + 1) ≠ 0 by omega); omega, by have := Int.emod_nonneg sk (show ((f : Int) + 1) ≠ 0 by omega); have := Int.emod_lt_of_pos sk (show 0 < ((f : Int) + 1) by omega); omega⟩
  have HW := Lib.hid (fun w => within_any sk ((f : Int) + 1) (by omega) (by omega) hsk.1 hsk.2 w)
  rw [hs] at HW
  have HW := Lib.hid (fun w => (HW.out w).mono (R' := fun e w' => e = .returned (.int .i64 (s : Int)) ∧ w' = w) (fun e w' he => ⟨he.1, he.2.symm⟩))
  rw [show (sk % ((f : Int) + 1)).toNat = s by rw [hs]; rfl]
  have KQ := Lib.hid (fun w => (rquorum_any (f : Int) w).mono (R' := fun e w' => e = .returned (.int .i64 (2 * (f : Int) + 1)) ∧ w' = w) (fun e w' he => ⟨by rw [he.1, quorumS_in (by omega) (by omega)], he.2.symm⟩))
  have KN := Lib.hid (fun w => (rnodes_any (f : Int) w).mono (R' := fun e w' => e = .returned (.int .i64 (3 * (f : Int) + 1)) ∧ w' = w) (fun e w' he => ⟨by rw [he.1, nodesS_in (by omega) (by omega)], he.2.symm⟩))
  have hb1 : Below w.heap.size w (w.alloc (.cells #[.pointer (some ⟨nb, 0, none⟩), .pointer (some ⟨rb, 0, none⟩)] 26)) := (Below.refl _ w).alloc (Nat.le_refl _) _
  have HS0 := Lib.hid (show VoSt w B nb bm rb R (voS ms f s L 0).2 (voS ms f s L 0).1 (.slice none 0 0) R (w.alloc (.cells #[.pointer (some ⟨nb, 0, none⟩), .pointer (some ⟨rb, 0, none⟩)] 26)) from
    ⟨Turn.of_below hb1, Blk.new _ _ _, h.below hb1, fun k hk => Or.inl hk, World.ownsRow_nil _ _ _ _, fun g hg => by cases hg⟩)
  have HZ := Lib.hid h.zone
  have HBm := Lib.hid h.nt.lt
  have HCl := Lib.hid HC
  have HMs := Lib.hid hms
  have HFr := Lib.hid hfr
  have HL1k := Lib.hid hL
  have HR0 := Lib.hid (show ∀ k, R k → k < w.heap.size from fun k hk => (h.zone k hk).2)
  have hf1 := hf.1
  have hf2 := hf.2
  clear h hs hsk hb1 hms hfr HC hf hL
  go_enter Tryz.func6, Tryz.ntmps6
  go_wp2_with fail
  obtain ⟨w1, hw1⟩ : ∃ w1, w.alloc (.cells #[.pointer (some ⟨nb, 0, none⟩), .pointer (some ⟨rb, 0, none⟩)] 26) = w1 := ⟨_, rfl⟩
  rw [hw1] at HS0 ⊢
  clear hw1
  refine (KN.out _).mono ?_
  rintro e w' ⟨rfl, rfl⟩
  go_wp2_with fail
  go_loopw [9, 11, 12] (fun v x y wr => ∃ i R', x = .int .i64 (i : Nat) ∧ i ≤ 2 * f + 1 ∧ Hid (VoSt w B nb bm rb R (voS ms f s L i).2 (voS ms f s L i).1 v R' wr)) (fun _ x _ _ => 2 * f + 1 - (intOf x).toNat)
  case atStart => exact ⟨0, R, rfl, by omega, HS0⟩
  case round =>
    obtain ⟨i, R', rfl, hi, HS⟩ := hrel
    have hlen := voS_len ms f s L i
    obtain ⟨Av, cv, hv, hvc, _⟩ := own_slice HS.out.own
    subst hv
    rw [hlen] at HS ⊢
    have HT := Lib.hid HS.out.two
    by_cases hlt : i < 2 * f + 1
    case neg =>
      obtain rfl : i = 2 * f + 1 := by omega
      go_wp2_with fail
      refine (KQ.out _).mono ?_
      rintro e w' ⟨rfl, rfl⟩
      go_wp2_with fail
      go_ret
      exact ⟨_, R', rfl, HS.out⟩
    case pos =>
      go_wp2_with fail
      refine (KQ.out _).mono ?_
      rintro e w' ⟨rfl, rfl⟩
      go_wp2_with fail
      refine (HW.out _).mono ?_
      rintro e w' ⟨rfl, rfl⟩
      have c0 := HT.out.cell 0
      have c1 := HT.out.cell 1
      simp only [List.getElem?_toArray, List.getElem?_cons_zero, List.getElem?_cons_succ] at c0 c1
      by_cases his : i < s
      case pos =>
        have hseat : ((seatN f s i : Nat) : Int) = (i : Int) := by unfold seatN; split <;> omega
        have h13 : 0 ≤ ((seatN f s i : Nat) : Int) ∧ ((seatN f s i : Nat) : Int) < 13 := by unfold seatN; split <;> omega
        have HFq := Lib.hid (HFr.out _ h13.1 h13.2)
        have HV1 := Lib.hid (show (voS ms f s L (i + 1)).1 = (voS ms f s L i).1 ++ [⟨(i : Int), msgK (voS ms f s L i).2 (ms (i : Int))⟩] from by rw [← hseat]; rfl)
        have HV2 := Lib.hid (show (voS ms f s L (i + 1)).2 = msgL (voS ms f s L i).2 (ms (i : Int)) from by rw [← hseat]; rfl)
        rw [hseat] at HFq
        clear hseat h13
        go_wp2_with fail
        have KC := Lib.hid (HCl.out (i : Int) w'.drew (HS.out.turn.drewN 1))
        have c0 : w'.drew.cell? ⟨w.heap.size, 0, none⟩ = some (.pointer (some ⟨nb, 0, none⟩)) := c0
        have c1 : w'.drew.cell? ⟨w.heap.size, 1, none⟩ = some (.pointer (some ⟨rb, 0, none⟩)) := c1
        obtain ⟨i0, hi0, hx0, hx1, hx2⟩ := info_parts info_vote
        have HLn := Lib.hid (voS_l2 ms f s L i HL1k.out)
        have HM3 := Lib.hid (show i + 1 ≤ maxLen by unfold maxLen; omega)
        have HM4 := Lib.hid (show (i + 1) * 16 ≤ 140737488355328 by omega)
        go_region_law (first
          | (go_simp; go_at_call 7; refine KC.out.mono ?_; rintro e w5 ⟨x, rfl, hxm, hxi, hb5⟩; have HS5 := Lib.hid (HS.out.below (show Below w'.heap.size w' w5 from ⟨hb5.os, hb5.tape, hb5.output, hb5.size, hb5.block⟩)); have HXi := Lib.hid hxi; have HXm := Lib.hid hxm; have e0 := HS5.out.two.cell 0; have e1 := HS5.out.two.cell 1; simp only [List.getElem?_toArray, List.getElem?_cons_zero, List.getElem?_cons_succ] at e0 e1; clear hb5 hxi hxm)
          | (go_simp; go_at_call 13; have KM := Lib.hid (tmsg_any HS5.out.tw (by have := HLn.out; omega) x HXi.out (by rw [HXm.out]; exact HMs.out _) (by rw [HXm.out]; exact HFq.out)); obtain ⟨sg, hsg⟩ : ∃ sg, msgK (voS ms f s L i).2 x.m = sg := ⟨_, rfl⟩; rw [hsg] at KM; have HSg := Lib.hid hsg; clear hsg; refine KM.out.mono ?_; rintro e w6 ⟨rfl, R2, hT6, ht6, hR6⟩; have HS6 := Lib.hid (HS5.out.seal HR0.out HBm.out.2 ht6 hT6 hR6); clear hT6 ht6 hR6; have HS7 := Lib.hid (HS6.out.below ((Below.refl _ w6).alloc (Nat.le_refl _) (.cells #[.int .i64 ((i : Int)), .int .i64 sg] 39))); have HOw := HS7.out.own; rw [hlen] at HOw; have HNw := Lib.hid (show Has (w6.alloc (.cells #[.int .i64 ((i : Int)), .int .i64 sg] 39)) (w6.heap.size + 1) (some ⟨w6.heap.size, 0, none⟩) [.int .i64 ((i : Int)), .int .i64 sg] from Has.fresh w6 #[.int .i64 ((i : Int)), .int .i64 sg] 39); have HM5 := Lib.hid (show w.heap.size + 1 ≤ (w6.alloc (.cells #[.int .i64 ((i : Int)), .int .i64 sg] 39)).heap.size by have := HS6.out.two.lt; simp; omega))
          | (refine step_apps rfl (.tmp 35) (.tmp 43) 29 rfl (w.heap.size + 1) 39 i0 (.agg #[.int .i64 0, .int .i64 0]) 2 16 Tryz.underlying29 hi0 hx0 hx1 hx2 rfl (by decide) (.slice Av i cv) i (voteCells (voS ms f s L i).1) rfl HOw _ (some ⟨w6.heap.size, 0, none⟩) 1 1 [.int .i64 ((i : Int)), .int .i64 sg] rfl rfl HNw.out (fun h => nomatch h) (by simp [Value.oneCell']) HM3.out HM4.out HM5.out ?_; intro v2 w7 ho2 hg2 hl2))
        all_goals
          have HS8 := Lib.hid (show VoSt w B nb bm rb R (voS ms f s L (i + 1)).2 (voS ms f s L (i + 1)).1 v2 R2 w7 from by
            rw [HV1.out, HV2.out, ← HXm.out, HSg.out]
            exact HS7.out.put (d := ⟨(i : Int), sg⟩) HBm.out.1 HBm.out.2 hg2 (by rw [hlen]; exact ho2) hl2)
          clear ho2 hg2 hl2 HOw
          go_wp2_with fail
          go_roundw
          case rel => exact ⟨i + 1, R2, by go_num, by omega, HS8⟩
          case measure => simp [intOf]; omega
      case neg =>
        have hseat : ((seatN f s i : Nat) : Int) = ((i : Int) + (3 * (f : Int) + 1) - (2 * (f : Int) + 1)) := by unfold seatN; split <;> omega
        have h13 : 0 ≤ ((seatN f s i : Nat) : Int) ∧ ((seatN f s i : Nat) : Int) < 13 := by unfold seatN; split <;> omega
        have HFq := Lib.hid (HFr.out _ h13.1 h13.2)
        have HV1 := Lib.hid (show (voS ms f s L (i + 1)).1 = (voS ms f s L i).1 ++ [⟨((i : Int) + (3 * (f : Int) + 1) - (2 * (f : Int) + 1)), msgK (voS ms f s L i).2 (ms ((i : Int) + (3 * (f : Int) + 1) - (2 * (f : Int) + 1)))⟩] from by rw [← hseat]; rfl)
        have HV2 := Lib.hid (show (voS ms f s L (i + 1)).2 = msgL (voS ms f s L i).2 (ms ((i : Int) + (3 * (f : Int) + 1) - (2 * (f : Int) + 1))) from by rw [← hseat]; rfl)
        rw [hseat] at HFq
        clear hseat h13
        go_wp2_with fail
        refine (KQ.out _).mono ?_
        rintro e w' ⟨rfl, rfl⟩
        go_wp2_with fail
        have KC := Lib.hid (HCl.out ((i : Int) + (3 * (f : Int) + 1) - (2 * (f : Int) + 1)) w'.drew (HS.out.turn.drewN 1))
        have c0 : w'.drew.cell? ⟨w.heap.size, 0, none⟩ = some (.pointer (some ⟨nb, 0, none⟩)) := c0
        have c1 : w'.drew.cell? ⟨w.heap.size, 1, none⟩ = some (.pointer (some ⟨rb, 0, none⟩)) := c1
        obtain ⟨i0, hi0, hx0, hx1, hx2⟩ := info_parts info_vote
        have HLn := Lib.hid (voS_l2 ms f s L i HL1k.out)
        have HM3 := Lib.hid (show i + 1 ≤ maxLen by unfold maxLen; omega)
        have HM4 := Lib.hid (show (i + 1) * 16 ≤ 140737488355328 by omega)
        go_region_law (first
          | (go_simp; go_at_call 7; refine KC.out.mono ?_; rintro e w5 ⟨x, rfl, hxm, hxi, hb5⟩; have HS5 := Lib.hid (HS.out.below (show Below w'.heap.size w' w5 from ⟨hb5.os, hb5.tape, hb5.output, hb5.size, hb5.block⟩)); have HXi := Lib.hid hxi; have HXm := Lib.hid hxm; have e0 := HS5.out.two.cell 0; have e1 := HS5.out.two.cell 1; simp only [List.getElem?_toArray, List.getElem?_cons_zero, List.getElem?_cons_succ] at e0 e1; clear hb5 hxi hxm)
          | (go_simp; go_at_call 13; have KM := Lib.hid (tmsg_any HS5.out.tw (by have := HLn.out; omega) x HXi.out (by rw [HXm.out]; exact HMs.out _) (by rw [HXm.out]; exact HFq.out)); obtain ⟨sg, hsg⟩ : ∃ sg, msgK (voS ms f s L i).2 x.m = sg := ⟨_, rfl⟩; rw [hsg] at KM; have HSg := Lib.hid hsg; clear hsg; refine KM.out.mono ?_; rintro e w6 ⟨rfl, R2, hT6, ht6, hR6⟩; have HS6 := Lib.hid (HS5.out.seal HR0.out HBm.out.2 ht6 hT6 hR6); clear hT6 ht6 hR6; have HS7 := Lib.hid (HS6.out.below ((Below.refl _ w6).alloc (Nat.le_refl _) (.cells #[.int .i64 ((i : Int) + (3 * (f : Int) + 1) - (2 * (f : Int) + 1)), .int .i64 sg] 39))); have HOw := HS7.out.own; rw [hlen] at HOw; have HNw := Lib.hid (show Has (w6.alloc (.cells #[.int .i64 ((i : Int) + (3 * (f : Int) + 1) - (2 * (f : Int) + 1)), .int .i64 sg] 39)) (w6.heap.size + 1) (some ⟨w6.heap.size, 0, none⟩) [.int .i64 ((i : Int) + (3 * (f : Int) + 1) - (2 * (f : Int) + 1)), .int .i64 sg] from Has.fresh w6 #[.int .i64 ((i : Int) + (3 * (f : Int) + 1) - (2 * (f : Int) + 1)), .int .i64 sg] 39); have HM5 := Lib.hid (show w.heap.size + 1 ≤ (w6.alloc (.cells #[.int .i64 ((i : Int) + (3 * (f : Int) + 1) - (2 * (f : Int) + 1)), .int .i64 sg] 39)).heap.size by have := HS6.out.two.lt; simp; omega))
          | (refine step_apps rfl (.tmp 35) (.tmp 43) 29 rfl (w.heap.size + 1) 39 i0 (.agg #[.int .i64 0, .int .i64 0]) 2 16 Tryz.underlying29 hi0 hx0 hx1 hx2 rfl (by decide) (.slice Av i cv) i (voteCells (voS ms f s L i).1) rfl HOw _ (some ⟨w6.heap.size, 0, none⟩) 1 1 [.int .i64 ((i : Int) + (3 * (f : Int) + 1) - (2 * (f : Int) + 1)), .int .i64 sg] rfl rfl HNw.out (fun h => nomatch h) (by simp [Value.oneCell']) HM3.out HM4.out HM5.out ?_; intro v2 w7 ho2 hg2 hl2))
        all_goals
          have HS8 := Lib.hid (show VoSt w B nb bm rb R (voS ms f s L (i + 1)).2 (voS ms f s L (i + 1)).1 v2 R2 w7 from by
            rw [HV1.out, HV2.out, ← HXm.out, HSg.out]
            exact HS7.out.put (d := ⟨(i : Int) + (3 * (f : Int) + 1) - (2 * (f : Int) + 1), sg⟩) HBm.out.1 HBm.out.2 hg2 (by rw [hlen]; exact ho2) hl2)
          clear ho2 hg2 hl2 HOw
          go_wp2_with fail
          go_roundw
          case rel => exact ⟨i + 1, R2, by go_num, by omega, HS8⟩
          case measure => simp [intOf]; omega
end Go.Proofs.YtiffmjfbdidgkaaGreat
