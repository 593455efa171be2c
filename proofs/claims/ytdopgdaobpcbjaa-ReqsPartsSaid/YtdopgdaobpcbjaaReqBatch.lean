/- The contract of reqs.Batch. -/
import Derived.Test.YtdopgdaobpcbjaaReqSeal
namespace Go.Proofs.Ytdopgdaobpcbjaa
open Go.RowKit Go.Sort

/-- (Behind a word of its own: Lean would reckon the guards out at each step.) -/
structure Wq (P : Program) (ops : Array Oper) (C : World → Prop) (Q : Act → Prop) (l : List Oper) (a : Act) : Prop where
  out : wpQuiet P ops C Q l a
theorem wq_out {P : Program} {ops : Array Oper} {C : World → Prop} {Q : Act → Prop} {a : Act} {l : List Oper} (h : Wq P ops C Q l a) : wpQuiet P ops C Q l a := h.out
theorem wq_nil {P : Program} {ops : Array Oper} {C : World → Prop} {Q : Act → Prop} {a : Act} (h : Q a) : Wq P ops C Q [] a := ⟨wpQuiet_nil h⟩
theorem wq_do {P : Program} {ops : Array Oper} {C : World → Prop} {Q : Act → Prop} {a : Act} {o : Oper} {rest : List Oper} (hw : Region.wanted o (yielded ops a.tmps) = true)
    (h : ∀ K : Act → Prop, (∀ a, Wq P ops C Q rest a → K a) → o.quiet P a C K) : Wq P ops C Q (o :: rest) a := ⟨wpQuiet_step fun K hK => by rw [if_pos hw]; exact h K fun a hq => hK a hq.out⟩
theorem wq_skip {P : Program} {ops : Array Oper} {C : World → Prop} {Q : Act → Prop} {a : Act} {o : Oper} {rest : List Oper} (hw : Region.wanted o (yielded ops a.tmps) = false)
    (h : Wq P ops C Q rest (a.put o.dst undef)) : Wq P ops C Q (o :: rest) a := ⟨wpQuiet_step fun K hK => by rw [if_neg (by rw [hw]; exact Bool.false_ne_true)]; exact hK _ h.out⟩
theorem blk_cells6 {w : World} {g t : Nat} {r : Rq} (h : Blk w g t #[.int .i64 r.cl, .int .i64 r.tm, .int .i64 r.kd, .int .i64 r.ky, .int .i64 r.vl, .int .i64 r.sg]) : w.cell? ⟨g, 0, none⟩ = some (.int .i64 r.cl) ∧ w.cell? ⟨g, 1, none⟩ = some (.int .i64 r.tm) ∧ w.cell? ⟨g, 2, none⟩ = some (.int .i64 r.kd) ∧ w.cell? ⟨g, 3, none⟩ = some (.int .i64 r.ky) ∧ w.cell? ⟨g, 4, none⟩ = some (.int .i64 r.vl) ∧ w.cell? ⟨g, 5, none⟩ = some (.int .i64 r.sg) :=
  ⟨h.cell 0, h.cell 1, h.cell 2, h.cell 3, h.cell 4, h.cell 5⟩
theorem six_of {a : Addr} {p : Nat} {w : World} {v0 v1 v2 v3 v4 v5 : Value} {B : Nat} (h : ∃ ad, some a = some ad ∧ ad.block < B ∧ w.cell? (ad.add p) = some v0 ∧ w.cell? ⟨(ad.add p).block, (ad.add p).off + 1, none⟩ = some v1 ∧ w.cell? ⟨(ad.add p).block, (ad.add p).off + 2, none⟩ = some v2 ∧ w.cell? ⟨(ad.add p).block, (ad.add p).off + 3, none⟩ = some v3 ∧ w.cell? ⟨(ad.add p).block, (ad.add p).off + 4, none⟩ = some v4 ∧ w.cell? ⟨(ad.add p).block, (ad.add p).off + 5, none⟩ = some v5) :
    w.cell? (a.add p) = some v0 ∧ w.cell? ⟨(a.add p).block, (a.add p).off + 1, none⟩ = some v1 ∧ w.cell? ⟨(a.add p).block, (a.add p).off + 2, none⟩ = some v2 ∧ w.cell? ⟨(a.add p).block, (a.add p).off + 3, none⟩ = some v3 ∧ w.cell? ⟨(a.add p).block, (a.add p).off + 4, none⟩ = some v4 ∧ w.cell? ⟨(a.add p).block, (a.add p).off + 5, none⟩ = some v5 := by
  obtain ⟨ad, e, _, h⟩ := h
  cases e
  exact h
theorem regrown6 {w : World} {a0 a1 a2 a3 a4 a5 : Addr} {v0 v1 v2 v3 v4 v5 : Value} (h : w.cell? a0 = some v0 ∧ w.cell? a1 = some v1 ∧ w.cell? a2 = some v2 ∧ w.cell? a3 = some v3 ∧ w.cell? a4 = some v4 ∧ w.cell? a5 = some v5) :
    (∀ d os, (grow (redrawn w d) os).cell? a0 = some v0) ∧ (∀ d os, (grow (redrawn w d) os).cell? a1 = some v1) ∧ (∀ d os, (grow (redrawn w d) os).cell? a2 = some v2) ∧ (∀ d os, (grow (redrawn w d) os).cell? a3 = some v3) ∧ (∀ d os, (grow (redrawn w d) os).cell? a4 = some v4) ∧ (∀ d os, (grow (redrawn w d) os).cell? a5 = some v5) :=
  ⟨cell_regrown h.1, cell_regrown h.2.1, cell_regrown h.2.2.1, cell_regrown h.2.2.2.1, cell_regrown h.2.2.2.2.1, cell_regrown h.2.2.2.2.2⟩
/-- One request more of a batch. -/
structure BaSt (w : World) (l : List Rq) (n : Int) (L : List Deed) (k : Nat) (wr : World) : Prop where
  low : Below w.heap.size w wr
  all : (l.take k).all (fun r => sealedS r n L) = true
  is : risesR l = risesR (l.drop (k - 1))
set_option maxHeartbeats 1600000 in
set_option maxRecDepth 100000 in
theorem rq_batch {w : World} {nb bm : Nat} {L : List Deed} (h : Nt w nb bm L) {A : Option Addr} {c B : Nat} {zs : List Rq} (h1 : Has w B A (reqCells zs)) (hl : zs.length ≤ 1000000) (m n : Int) :
    Calls Try.prog 13 #[.slice A zs.length c, .int .i64 m, .int .i64 n, .pointer (some ⟨nb, 0, none⟩)] w fun e w' => e = .returned (.bool (rightS zs m n L)) ∧ Below w.heap.size w w' := by
  have H1 := Lib.hid h1.tight
  have HR := Lib.hid h
  clear h1 h
  by_cases hm : (zs.length : Int) ≤ m
  · have t0 : decide (m < (zs.length : Int)) = false := decide_eq_false (by omega)
    have HM := Lib.hid (show rightS zs m n L = (risesR zs && zs.all (fun r => sealedS r n L)) by unfold rightS; rw [decide_eq_true hm, Bool.true_and])
    rw [HM.out]
    clear hm
    go_enter Try.func13, Try.ntmps13
    go_wp2_with fail
    go_loopw [17] (fun x wr => ∃ k : Nat, x = .int .i64 k ∧ k ≤ zs.length ∧ Hid (BaSt w zs n L k wr)) (fun x _ => zs.length - (intOf x).toNat)
    case atStart => exact ⟨0, rfl, Nat.zero_le _, Below.refl _ _, by simp, rfl⟩
    case round =>
      obtain ⟨k, rfl, hk, HT⟩ := hrel
      by_cases hlt : k < zs.length
      · have HH := H1.out.below HT.out.low (Nat.le_refl _)
        obtain ⟨a1, rfl, _, c0, c1, c2, c3, c4, c5⟩ := HH.req hlt
        have HX := Lib.hid (show zs[k]? = some zs[k] from List.getElem?_eq_getElem hlt)
        obtain ⟨x, hx⟩ : ∃ x, zs[k] = x := ⟨_, rfl⟩
        rw [hx] at c0 c1 c2 c3 c4 c5 HX
        have HXk := Lib.hid hx
        have HBx := Lib.hid (HT.out.low.alloc HT.out.low.size (.cells #[.int .i64 x.cl, .int .i64 x.tm, .int .i64 x.kd, .int .i64 x.ky, .int .i64 x.vl, .int .i64 x.sg] 34))
        have HNt := Lib.hid ((HR.out.below HT.out.low).below ((Below.refl _ _).alloc (Nat.le_refl _) (.cells #[.int .i64 x.cl, .int .i64 x.tm, .int .i64 x.kd, .int .i64 x.ky, .int .i64 x.vl, .int .i64 x.sg] 34)))
        have HBk := Lib.hid (Blk.new wr 34 #[.int .i64 x.cl, .int .i64 x.tm, .int .i64 x.kd, .int .i64 x.ky, .int .i64 x.vl, .int .i64 x.sg])
        clear hx HH
        cases hs : sealedS x n L
        · have HE := Lib.hid (right_far HX.out hs)
          go_wp2_with fail
          obtain ⟨w1, hw1⟩ : ∃ w1, wr.alloc (.cells #[.int .i64 x.cl, .int .i64 x.tm, .int .i64 x.kd, .int .i64 x.ky, .int .i64 x.vl, .int .i64 x.sg] 34) = w1 := ⟨_, rfl⟩
          obtain ⟨g, hg⟩ : ∃ g, wr.heap.size = g := ⟨_, rfl⟩
          rw [hw1] at HBx HNt HBk ⊢
          rw [hg] at HBk ⊢
          obtain ⟨d0, d1, d2, d3, d4, d5⟩ := regrown6 (blk_cells6 HBk.out)
          have KS := fun d os => Calls.regrown_of (rq_sealed (w := grow (redrawn w1 d) os) (HNt.out.below (below_regrown w1 d os)) x n)
          rw [hs] at KS
          clear hw1 hg HBk c0 c1 c2 c3 c4 c5 HNt hs
          refine wp_region_quiet_below (by kernel_rfl) (by kernel_rfl) ?_
          refine wq_out ?_
          refine wq_do (by kernel_rfl) (fun K hK => ?_)
          go_simp
          refine hK _ ?_
          clear hK K
          refine wq_do (by kernel_rfl) (fun K hK => ?_)
          go_simp
          refine hK _ ?_
          clear hK K
          refine wq_do (by kernel_rfl) (fun K hK => ?_)
          go_simp
          refine hK _ ?_
          clear hK K
          refine wq_do (by kernel_rfl) (fun K hK => ?_)
          go_simp
          apply Exists.intro
          refine ⟨fun a => ?_, hK _ ?_⟩
          · exact KS a.d a.os
          clear hK K
          refine wq_do (by kernel_rfl) (fun K hK => ?_)
          go_simp
          refine hK _ ?_
          clear hK K
          refine wq_do (by kernel_rfl) (fun K hK => ?_)
          go_simp
          refine hK _ ?_
          clear hK K
          refine wq_skip (by kernel_rfl) ?_
          refine wq_skip (by kernel_rfl) ?_
          refine wq_skip (by kernel_rfl) ?_
          refine wq_skip (by kernel_rfl) ?_
          refine wq_skip (by kernel_rfl) ?_
          refine wq_skip (by kernel_rfl) ?_
          refine wq_skip (by kernel_rfl) ?_
          refine wq_skip (by kernel_rfl) ?_
          refine wq_skip (by kernel_rfl) ?_
          refine wq_skip (by kernel_rfl) ?_
          refine wq_skip (by kernel_rfl) ?_
          refine wq_skip (by kernel_rfl) ?_
          refine wq_do (by kernel_rfl) (fun K hK => ?_)
          go_simp
          refine hK _ ?_
          clear hK K
          refine wq_nil ?_
          intro _ hw'
          obtain ⟨⟨dq, osq⟩, hw''⟩ := hw'
          subst hw''
          have HB3 := Lib.hid (HBx.out.trans ((below_regrown w1 dq osq).mono HBx.out.size))
          clear KS d0 d1 d2 d3 d4 d5
          go_wp2_with fail
          go_ret
          exact ⟨by rw [HE.out, Bool.and_false]; rfl, HB3.out⟩
        · have HE := Lib.hid (show (zs.take (k + 1)).all (fun r => sealedS r n L) = true by rw [right_next HX.out, HT.out.all, hs]; rfl)
          by_cases hk0 : k = 0
          · have HRi := Lib.hid (show risesR zs = risesR (zs.drop (k + 1 - 1)) by rw [hk0]; rfl)
            have hkd : decide (0 < k) = false := decide_eq_false (by omega)
            have hkn : ¬ 0 < k := by omega
            clear hk0
            go_wp2_with fail
            obtain ⟨w1, hw1⟩ : ∃ w1, wr.alloc (.cells #[.int .i64 x.cl, .int .i64 x.tm, .int .i64 x.kd, .int .i64 x.ky, .int .i64 x.vl, .int .i64 x.sg] 34) = w1 := ⟨_, rfl⟩
            obtain ⟨g, hg⟩ : ∃ g, wr.heap.size = g := ⟨_, rfl⟩
            rw [hw1] at HBx HNt HBk ⊢
            rw [hg] at HBk ⊢
            obtain ⟨d0, d1, d2, d3, d4, d5⟩ := regrown6 (blk_cells6 HBk.out)
            have KS := fun d os => Calls.regrown_of (rq_sealed (w := grow (redrawn w1 d) os) (HNt.out.below (below_regrown w1 d os)) x n)
            rw [hs] at KS
            clear hw1 hg HBk c0 c1 c2 c3 c4 c5 HNt hs
            refine wp_region_quiet_below (by kernel_rfl) (by kernel_rfl) ?_
            refine wq_out ?_
            refine wq_do (by kernel_rfl) (fun K hK => ?_)
            go_simp
            refine hK _ ?_
            clear hK K
            refine wq_do (by kernel_rfl) (fun K hK => ?_)
            go_simp
            refine hK _ ?_
            clear hK K
            refine wq_do (by kernel_rfl) (fun K hK => ?_)
            go_simp
            refine hK _ ?_
            clear hK K
            refine wq_do (by kernel_rfl) (fun K hK => ?_)
            go_simp
            apply Exists.intro
            refine ⟨fun a => ?_, hK _ ?_⟩
            · exact KS a.d a.os
            clear hK K
            refine wq_do (by kernel_rfl) (fun K hK => ?_)
            go_simp
            refine hK _ ?_
            clear hK K
            refine wq_do (by kernel_rfl) (fun K hK => ?_)
            go_simp
            refine hK _ ?_
            clear hK K
            refine wq_do (by kernel_rfl) (fun K hK => ?_)
            go_simp
            refine hK _ ?_
            clear hK K
            refine wq_do (by kernel_rfl) (fun K hK => ?_)
            go_simp
            refine hK _ ?_
            clear hK K
            refine wq_do (by kernel_rfl) (fun K hK => ?_)
            go_simp
            refine hK _ ?_
            clear hK K
            refine wq_skip (by kernel_rfl) ?_
            refine wq_skip (by kernel_rfl) ?_
            refine wq_skip (by kernel_rfl) ?_
            refine wq_skip (by kernel_rfl) ?_
            refine wq_skip (by kernel_rfl) ?_
            refine wq_skip (by kernel_rfl) ?_
            refine wq_skip (by kernel_rfl) ?_
            refine wq_skip (by kernel_rfl) ?_
            refine wq_do (by kernel_rfl) (fun K hK => ?_)
            go_simp
            refine hK _ ?_
            clear hK K
            refine wq_do (by kernel_rfl) (fun K hK => ?_)
            go_simp
            refine hK _ ?_
            clear hK K
            refine wq_nil ?_
            intro _ hw'
            obtain ⟨⟨dq, osq⟩, hw''⟩ := hw'
            subst hw''
            have HB3 := Lib.hid (HBx.out.trans ((below_regrown w1 dq osq).mono HBx.out.size))
            clear KS d0 d1 d2 d3 d4 d5
            go_wp2_with fail
            go_roundw
            case rel => exact ⟨k + 1, by go_num, by omega, HB3.out, HE.out, HRi.out⟩
            case measure => simp [intOf]; omega
          · obtain ⟨j, rfl⟩ : ∃ j, k = j + 1 := ⟨k - 1, by omega⟩
            have hjl : j < zs.length := by omega
            have HHs := Lib.hid (fun (w2 : World) (h2 : Below w.heap.size w w2) => (H1.out.below h2 (Nat.le_refl _)).req hjl)
            obtain ⟨y, hy⟩ : ∃ y, zs[j] = y := ⟨_, rfl⟩
            rw [hy] at HHs
            have HN := Lib.hid (show risesR (zs.drop j) = (decide (cmpR y x < 0) && risesR (zs.drop (j + 1))) from risesR_next (by rw [List.drop_eq_getElem_cons hjl, List.drop_eq_getElem_cons hlt, hy, HXk.out]))
            have HI := Lib.hid (show risesR zs = risesR (zs.drop j) from HT.out.is)
            clear hy hk0
            have hj1 : IntKind.i64.wrap (j : Int) = (j : Int) := IntWalk.i64_in _ (by omega)
            have hj2 : 0 ≤ (j : Int) + 1 := by omega
            have hj3 : ((j : Int) + 1).toNat = j + 1 := by omega
            have hj4 : (j : Int) + 1 < zs.length := by omega
            have hj5 : decide ((0 : Int) < (j : Int) + 1) = true := decide_eq_true (by omega)
            have hj6 : decide (0 < j + 1) = true := decide_eq_true (by omega)
            go_wp2_with fail
            obtain ⟨w1, hw1⟩ : ∃ w1, wr.alloc (.cells #[.int .i64 x.cl, .int .i64 x.tm, .int .i64 x.kd, .int .i64 x.ky, .int .i64 x.vl, .int .i64 x.sg] 34) = w1 := ⟨_, rfl⟩
            obtain ⟨g, hg⟩ : ∃ g, wr.heap.size = g := ⟨_, rfl⟩
            rw [hw1] at HBx HNt HBk ⊢
            rw [hg] at HBk ⊢
            obtain ⟨d0, d1, d2, d3, d4, d5⟩ := regrown6 (blk_cells6 HBk.out)
            have KS := fun d os => Calls.regrown_of (rq_sealed (w := grow (redrawn w1 d) os) (HNt.out.below (below_regrown w1 d os)) x n)
            rw [hs] at KS
            clear hw1 hg HBk c0 c1 c2 c3 c4 c5 HNt hs
            obtain ⟨y0, y1, y2, y3, y4, y5⟩ := regrown6 (six_of (HHs.out w1 HBx.out))
            have KC := fun d os => Calls.regrown_of (rq_compare y x (grow (redrawn w1 d) os))
            have hja : (0 : Int) ≤ (j : Int) := by omega
            have hjb : (j : Int) < zs.length := by omega
            have HCr := Lib.hid (cmpR_range y x)
            obtain ⟨cr, hcr⟩ : ∃ cr, cmpR y x = cr := ⟨_, rfl⟩
            rw [hcr] at KC HN HCr
            clear hcr
            by_cases hc : cr < 0
            · have HNx := Lib.hid (show risesR zs = risesR (zs.drop (j + 1 + 1 - 1)) by rw [HI.out, HN.out, decide_eq_true hc, Bool.true_and]; rfl)
              have hcd : decide (0 ≤ cr) = false := decide_eq_false (by omega)
              clear hc
              refine wp_region_quiet_below (by kernel_rfl) (by kernel_rfl) ?_
              refine wq_out ?_
              refine wq_do (by kernel_rfl) (fun K hK => ?_)
              go_simp
              refine hK _ ?_
              clear hK K
              refine wq_do (by kernel_rfl) (fun K hK => ?_)
              go_simp
              refine hK _ ?_
              clear hK K
              refine wq_do (by kernel_rfl) (fun K hK => ?_)
              go_simp
              refine hK _ ?_
              clear hK K
              refine wq_do (by kernel_rfl) (fun K hK => ?_)
              go_simp
              apply Exists.intro
              refine ⟨fun a => ?_, hK _ ?_⟩
              · exact KS a.d a.os
              clear hK K
              refine wq_do (by kernel_rfl) (fun K hK => ?_)
              go_simp
              refine hK _ ?_
              clear hK K
              refine wq_do (by kernel_rfl) (fun K hK => ?_)
              go_simp
              refine hK _ ?_
              clear hK K
              refine wq_do (by kernel_rfl) (fun K hK => ?_)
              go_simp
              refine hK _ ?_
              clear hK K
              refine wq_do (by kernel_rfl) (fun K hK => ?_)
              go_simp
              refine hK _ ?_
              clear hK K
              refine wq_do (by kernel_rfl) (fun K hK => ?_)
              go_simp
              refine hK _ ?_
              clear hK K
              refine wq_do (by kernel_rfl) (fun K hK => ?_)
              go_simp
              refine hK _ ?_
              clear hK K
              refine wq_do (by kernel_rfl) (fun K hK => ?_)
              go_simp
              refine hK _ ?_
              clear hK K
              refine wq_do (by kernel_rfl) (fun K hK => ?_)
              go_simp
              refine hK _ ?_
              clear hK K
              refine wq_do (by kernel_rfl) (fun K hK => ?_)
              go_simp
              refine hK _ ?_
              clear hK K
              refine wq_do (by kernel_rfl) (fun K hK => ?_)
              go_simp
              refine hK _ ?_
              clear hK K
              refine wq_do (by kernel_rfl) (fun K hK => ?_)
              go_simp
              refine hK _ ?_
              clear hK K
              refine wq_do (by kernel_rfl) (fun K hK => ?_)
              go_simp
              apply Exists.intro
              refine ⟨fun a => ?_, hK _ ?_⟩
              · exact KC a.d a.os
              clear hK K
              refine wq_do (by kernel_rfl) (fun K hK => ?_)
              go_simp
              refine hK _ ?_
              clear hK K
              refine wq_do (by kernel_rfl) (fun K hK => ?_)
              go_simp
              refine hK _ ?_
              clear hK K
              refine wq_do (by kernel_rfl) (fun K hK => ?_)
              go_simp
              refine hK _ ?_
              clear hK K
              refine wq_nil ?_
              intro _ hw'
              obtain ⟨⟨dq, osq⟩, hw''⟩ := hw'
              subst hw''
              have HB3 := Lib.hid (HBx.out.trans ((below_regrown w1 dq osq).mono HBx.out.size))
              clear KS KC d0 d1 d2 d3 d4 d5 y0 y1 y2 y3 y4 y5
              go_wp2_with fail
              go_roundw
              case rel => exact ⟨j + 1 + 1, by go_num, by omega, HB3.out, HE.out, HNx.out⟩
              case measure => simp [intOf]; omega
            · have HNx := Lib.hid (show risesR zs = false by rw [HI.out, HN.out, decide_eq_false hc, Bool.false_and])
              have hcd : decide (0 ≤ cr) = true := decide_eq_true (by omega)
              clear hc
              refine wp_region_quiet_below (by kernel_rfl) (by kernel_rfl) ?_
              refine wq_out ?_
              refine wq_do (by kernel_rfl) (fun K hK => ?_)
              go_simp
              refine hK _ ?_
              clear hK K
              refine wq_do (by kernel_rfl) (fun K hK => ?_)
              go_simp
              refine hK _ ?_
              clear hK K
              refine wq_do (by kernel_rfl) (fun K hK => ?_)
              go_simp
              refine hK _ ?_
              clear hK K
              refine wq_do (by kernel_rfl) (fun K hK => ?_)
              go_simp
              apply Exists.intro
              refine ⟨fun a => ?_, hK _ ?_⟩
              · exact KS a.d a.os
              clear hK K
              refine wq_do (by kernel_rfl) (fun K hK => ?_)
              go_simp
              refine hK _ ?_
              clear hK K
              refine wq_do (by kernel_rfl) (fun K hK => ?_)
              go_simp
              refine hK _ ?_
              clear hK K
              refine wq_do (by kernel_rfl) (fun K hK => ?_)
              go_simp
              refine hK _ ?_
              clear hK K
              refine wq_do (by kernel_rfl) (fun K hK => ?_)
              go_simp
              refine hK _ ?_
              clear hK K
              refine wq_do (by kernel_rfl) (fun K hK => ?_)
              go_simp
              refine hK _ ?_
              clear hK K
              refine wq_do (by kernel_rfl) (fun K hK => ?_)
              go_simp
              refine hK _ ?_
              clear hK K
              refine wq_do (by kernel_rfl) (fun K hK => ?_)
              go_simp
              refine hK _ ?_
              clear hK K
              refine wq_do (by kernel_rfl) (fun K hK => ?_)
              go_simp
              refine hK _ ?_
              clear hK K
              refine wq_do (by kernel_rfl) (fun K hK => ?_)
              go_simp
              refine hK _ ?_
              clear hK K
              refine wq_do (by kernel_rfl) (fun K hK => ?_)
              go_simp
              refine hK _ ?_
              clear hK K
              refine wq_do (by kernel_rfl) (fun K hK => ?_)
              go_simp
              refine hK _ ?_
              clear hK K
              refine wq_do (by kernel_rfl) (fun K hK => ?_)
              go_simp
              apply Exists.intro
              refine ⟨fun a => ?_, hK _ ?_⟩
              · exact KC a.d a.os
              clear hK K
              refine wq_do (by kernel_rfl) (fun K hK => ?_)
              go_simp
              refine hK _ ?_
              clear hK K
              refine wq_do (by kernel_rfl) (fun K hK => ?_)
              go_simp
              refine hK _ ?_
              clear hK K
              refine wq_do (by kernel_rfl) (fun K hK => ?_)
              go_simp
              refine hK _ ?_
              clear hK K
              refine wq_nil ?_
              intro _ hw'
              obtain ⟨⟨dq, osq⟩, hw''⟩ := hw'
              subst hw''
              have HB3 := Lib.hid (HBx.out.trans ((below_regrown w1 dq osq).mono HBx.out.size))
              clear KS KC d0 d1 d2 d3 d4 d5 y0 y1 y2 y3 y4 y5
              go_wp2_with fail
              go_ret
              exact ⟨by rw [HNx.out, Bool.false_and]; rfl, HB3.out⟩
      · have HE := Lib.hid (show zs.all (fun r => sealedS r n L) = true by have := HT.out.all; rwa [List.take_of_length_le (by omega)] at this)
        have HE2 := Lib.hid (show risesR zs = true by rw [HT.out.is]; exact risesR_last (by omega))
        go_wp2_with fail
        go_ret
        exact ⟨by rw [HE.out, HE2.out]; rfl, HT.out.low⟩
  · have HS := Lib.hid (show rightS zs m n L = false by unfold rightS; rw [decide_eq_false hm]; rfl)
    have t0 : decide (m < (zs.length : Int)) = true := decide_eq_true (by omega)
    rw [HS.out]
    clear hm
    go_enter Try.func13, Try.ntmps13
    go_wp2_with fail
    go_ret
    exact ⟨rfl, Below.refl _ _⟩
end Go.Proofs.Ytdopgdaobpcbjaa
