/- The walk of ChangePlays: it returns true for any int and any two lists of acts. -/
import Derived.Test.YtfbipebijelfjaaChRight
import Derived.Laws.Tables
import Derived.Deep.WholeRow
namespace Go.Proofs.Ytfbipebijelfjaa
open Go.RowKit
set_option linter.unusedSimpArgs false
set_option linter.unusedVariables false

theorem wp_load_all {P : Program} {o : Oper} {a : Act} {w : World} {K : Act → World → Prop} {Q : Exit → Act → World → Prop} (ty : TypeId) (x : Operand) (ho : o.op = .load ty x)
    (g : Nat) (cells : Array Value) (hx : a.eval x = .pointer (some ⟨g, 0, none⟩)) (hl : (loadVar ty ⟨g, 0, none⟩).run P w = .ok (.agg cells) w) (h : K (a.put o.dst (.agg cells)) w) : o.wp P a w K Q := by
  unfold Oper.wp execOp
  simp only [ho, hx, Instr.loadAt, Instr.sureAddr, Sem.run_bind, Sem.run_pure, Result.andThen_ok, hl]
  exact h
theorem dinfo_size (f : Int) (V S : Nat → Int) : (Try.prog.info? 48).map (·.size) = some (dqG f V S).size := by
  rw [dqG_size]
  kernel_rfl
theorem dqG_one (f : Int) (V S : Nat → Int) : (dqG f V S).all (·.oneCell') = true := by
  rw [Array.all_eq_true_iff_forall_mem]
  intro u hu
  simp [dqG, dqL] at hu
  rcases hu with rfl | ⟨_, _, rfl⟩ | ⟨_, _, rfl⟩ <;> rfl
theorem dload {w : World} {cb : Nat} {f : Int} {L : List Cw} (h : Blk w cb 48 (dqC f L)) : (loadVar 48 ⟨cb, 0, none⟩).run Try.prog w = .ok (.agg (dqC f L)) w :=
  run_loadVar_row w cb 48 48 (dqC f L) (0, 0) _ h Try.underlying48 rfl (dinfo_size _ _ _)
theorem dstore_cells (w : World) (f : Int) (L : List Cw) : (storeCells ⟨w.heap.size, 0, none⟩ (dqC f L).toList 0).run Try.prog (w.alloc (.cells (dqG 0 (fun _ => 0) (fun _ => 0)) 48)) = .ok () (w.alloc (.cells (dqC f L) 48)) :=
  run_storeCells_new w 48 (dqG 0 (fun _ => 0) (fun _ => 0)) (dqC f L) (dinfo_size _ _ _) ((dqG_size 0 _ _).trans (dqG_size f (vD L) (sD L)).symm) (dqG_one _ _ _)
theorem dq_zero : dqG 0 (fun _ => 0) (fun _ => 0) = #[.int .i64 0, .int .i64 0, .int .i64 0, .int .i64 0, .int .i64 0, .int .i64 0, .int .i64 0, .int .i64 0, .int .i64 0, .int .i64 0, .int .i64 0, .int .i64 0, .int .i64 0, .int .i64 0, .int .i64 0, .int .i64 0, .int .i64 0, .int .i64 0, .int .i64 0, .int .i64 0, .int .i64 0, .int .i64 0, .int .i64 0, .int .i64 0, .int .i64 0, .int .i64 0, .int .i64 0] := rfl
/-- Both, made since w. -/
structure Jp (w : World) (vb g c cb : Nat) (f : Int) (L : List Cw) (wr : World) : Prop where
  j : Jc wr vb g c cb f L
  l1 : w.heap.size ≤ vb
  l2 : w.heap.size ≤ g
  l3 : w.heap.size ≤ cb
  low : Below w.heap.size w wr
/-- Two pairs of them. -/
structure Jq (w : World) (vb g c cb : Nat) (L : List Cw) (db g' c' qb : Nat) (M : List Cw) (f : Int) (wr : World) : Prop where
  a : Jp w vb g c cb f L wr
  b : Jp w db g' c' qb f M wr
  n1 : vb ≠ g' ∧ g ≠ g' ∧ cb ≠ g'
  n2 : vb ≠ qb ∧ g ≠ qb ∧ cb ≠ qb
section
variable {w wr wz : World} {vb g c cb db g' c' qb : Nat} {f : Int} {L M M' : List Cw}
theorem Jp.below (h : Jp w vb g c cb f L wr) (hb : Below wr.heap.size wr wz) : Jp w vb g c cb f L wz := ⟨h.j.below hb, h.l1, h.l2, h.l3, h.low.trans (hb.mono h.low.size)⟩
theorem Jp.next (h : Jp w vb g c cb f L wr) (hj : Jc wz vb g c cb f M) (ht : Turn (fun j => j = g ∨ j = cb) wr wz) : Jp w vb g c cb f M wz :=
  ⟨hj, h.l1, h.l2, h.l3, h.low.trans (ht.below h.low.size (fun k hk e => by have := h.l2; have := h.l3; omega))⟩
theorem Jq.below (h : Jq w vb g c cb L db g' c' qb M f wr) (hb : Below wr.heap.size wr wz) : Jq w vb g c cb L db g' c' qb M f wz := ⟨h.a.below hb, h.b.below hb, h.n1, h.n2⟩
theorem Jq.next (h : Jq w vb g c cb L db g' c' qb M f wr) (hj : Jc wz db g' c' qb f M') (ht : Turn (fun j => j = g' ∨ j = qb) wr wz) : Jq w vb g c cb L db g' c' qb M' f wz :=
  ⟨⟨h.a.j.kept ht (fun e => e.elim h.n1.1 h.n2.1) (fun e => e.elim h.n1.2.1 h.n2.2.1) (fun e => e.elim h.n1.2.2 h.n2.2.2), h.a.l1, h.a.l2, h.a.l3, (h.b.next hj ht).low⟩, h.b.next hj ht, h.n1, h.n2⟩
end
set_option maxRecDepth 100000 in
set_option maxHeartbeats 8000000 in
theorem changePlays_walk (a0 : Int) (A1 : Option Addr) (c1 : Nat) (l1 : List Ac) (A2 : Option Addr) (c2 : Nat) (l2 : List Ac) (w : World) (w0 : (Lit.int .i64 a0).wf = true) (w1 : IsActs w A1 l1 c1) (w2 : IsActs w A2 l2 c2) :
    Calls Try.prog 4 #[.int .i64 a0, .slice A1 l1.length c1, .slice A2 l2.length c2] w fun e w' => e = .returned (.bool true) ∧ Below w.heap.size w w' := by
  have HA1 := Lib.hid w1.has
  have HF1 := Lib.hid w1.came
  have HA2 := Lib.hid w2.has
  have HF2 := Lib.hid w2.came
  obtain ⟨n1, hn1⟩ : ∃ n, l1.length = n := ⟨_, rfl⟩
  obtain ⟨n2, hn2⟩ : ∃ n, l2.length = n := ⟨_, rfl⟩
  have HM1 := Lib.hid (show n1 ≤ maxLen by rw [← hn1]; exact Nat.le_trans w1.le w1.most)
  have HM2 := Lib.hid (show n2 ≤ maxLen by rw [← hn2]; exact Nat.le_trans w2.le w2.most)
  rw [hn1, hn2]
  have HN1 := Lib.hid hn1
  have HN2 := Lib.hid hn2
  clear w0 w1 w2 hn1 hn2
  by_cases hf : 1 ≤ a0 ∧ a0 ≤ 4
  · obtain ⟨p, hp⟩ : ∃ p : Nat, (p : Int) = 3 * a0 + 1 := ⟨(3 * a0 + 1).toNat, by omega⟩
    have HNew := Lib.hid (fun w => rv_new (f := a0) (n := p) hf.1 hf.2 hp w w (Below.refl _ _))
    have gf1 : decide (a0 < 1) = false := decide_eq_false (by omega)
    have gf2 : decide (4 < a0) = false := decide_eq_false (by omega)
    clear hf hp
    go_enter Try.func4, Try.ntmps4
    go_wp2_with fail
    refine (HNew.out _).mono ?_
    rintro e w1 ⟨vb, g, c, rfl, hR, -, -, -⟩
    have HR := Lib.hid hR
    clear hR
    go_wp2_with fail
    refine (dnew_any (n := p) w1).mono ?_
    rintro e w2 ⟨cb, rfl, hd, hcb, hb2⟩
    have HJ := Lib.hid (show Jp w vb g c cb a0 (List.replicate p none) w2 from ⟨⟨HR.out.vq.below hb2, hd⟩, HR.out.lv, HR.out.lg, Nat.le_trans HR.out.low.size hcb, HR.out.low.trans (hb2.mono HR.out.low.size)⟩)
    clear hd hcb hb2 HR
    go_wp2_with fail
    go_loopw [10] (fun x wr => ∃ (k : Nat) (L : List Cw), x = .int .i64 k ∧ k ≤ n1 ∧ k ≤ 80 ∧ Hid (Jp w vb g c cb a0 L wr)) (fun x _ => n1 - (intOf x).toNat)
    case atStart => exact ⟨0, _, rfl, Nat.zero_le _, Nat.zero_le _, HJ⟩
    case round =>
      clear HJ
      obtain ⟨k, L, rfl, hk, hk2, HJ⟩ := hrel
      by_cases hlt : k < n1 ∧ k < 80
      · obtain ⟨hlt1, hlt2⟩ := hlt
        obtain ⟨ad, rfl, hab, h0, h1, h2, h3⟩ := act_at (HA1.out.below HJ.out.low (Nat.le_refl _)) (show k < l1.length by rw [HN1.out]; exact hlt1)
        obtain ⟨⟨dd, nd, vw, sg⟩, hx⟩ : ∃ x, l1[k]'(by rw [HN1.out]; exact hlt1) = x := ⟨_, rfl⟩
        have HFx := Lib.hid (show Ac.Came w ⟨dd, nd, vw, sg⟩ from hx ▸ HF1.out _ (List.getElem_mem _))
        rw [hx] at h0 h1 h2 h3
        simp only at h0 h1 h2 h3
        clear hx hab
        have HD := Lib.hid (cdo_any HJ.out.j (nd := nd) (vw := vw) (sg := sg) HFx.out.dd)
        go_wp2_with fail
        refine HD.out.mono ?_
        rintro e w3 ⟨rfl, L', hj, ht⟩
        have HJ3 := Lib.hid (HJ.out.next hj ht)
        have HRt := Lib.hid (cright_any hj)
        clear hj ht h0 h1 h2 h3
        go_wp2_with fail
        refine HRt.out.mono ?_
        rintro e w4 ⟨rfl, hb4⟩
        have HJ4 := Lib.hid (HJ3.out.below hb4)
        clear hb4
        go_wp2_with fail
        go_roundw
        case rel => exact ⟨k + 1, L', by go_num, by omega, by omega, HJ4⟩
        case measure => simp [intOf]; omega
      · have hend : (decide ((k : Int) < (n1 : Int)) && decide ((k : Int) < 80)) = false := by simp; omega
        have HZ := Lib.hid dq_zero
        by_cases hk1 : k < n1
        · go_wp2_with fail
          refine (cvclone_any HJ.out.j.v).mono ?_
          rintro e w3 ⟨db, g', c', rfl, hv3, hdb, hg', hb3⟩
          have HJ3 := Lib.hid (HJ.out.below hb3)
          have HV3 := Lib.hid hv3
          have HO3 := Lib.hid (show w.heap.size ≤ db ∧ w.heap.size ≤ g' ∧ vb < g' ∧ g < g' ∧ cb < g' from by
            have h1 := HJ.out.j.lt
            have h2 := HJ.out.low.size
            omega)
          clear hv3 hdb hg' hb3 HJ
          have hst := dstore_cells w3 a0 L
          rw [HZ.out, show dqC a0 L = (dqL a0 (vD L) (sD L)).toArray from rfl] at hst
          have hsz : (dqL a0 (vD L) (sD L)).toArray.size = 27 := dqG_size _ _ _
          have hrow : w3.rangeAt cb 0 (dqL a0 (vD L) (sD L)) := fun j v hj => by
            rw [Nat.zero_add]
            exact (HJ3.out.j.d.cell j).trans ((List.getElem?_toArray (xs := dqL a0 (vD L) (sD L))).trans hj)
          have hinf := dinfo_size a0 (vD L) (sD L)
          rw [show (dqG a0 (vD L) (sD L)).size = (dqL a0 (vD L) (sD L)).length from by rw [dqG, List.size_toArray]] at hinf
          obtain ⟨C, hC⟩ : ∃ C, dqL a0 (vD L) (sD L) = C := ⟨_, rfl⟩
          have HCc := Lib.hid (show dqC a0 L = C.toArray from congrArg List.toArray hC)
          rw [hC] at hst hsz hrow hinf
          have HRow := Lib.hid hrow
          have HInf := Lib.hid hinf
          clear hC hrow hinf
          go_wp2_with (refine wpList_load_mid rfl 48 _ rfl cb 0 rfl C _ HRow.out Try.underlying48 rfl HInf.out ?_)
          generalize C.toArray = C at hst hsz HCc ⊢
          have HQ0 := Lib.hid (show Jq w vb g c cb L db g' c' w3.heap.size L a0 (w3.alloc (.cells C 48)) from by
            have hb : Below w3.heap.size w3 (w3.alloc (.cells C 48)) := (Below.refl _ _).alloc (Nat.le_refl _) _
            have ho := HO3.out
            have h1 := HJ3.out.j.lt
            exact ⟨HJ3.out.below hb, ⟨⟨HV3.out.below hb, HCc.out ▸ Blk.new _ _ _⟩, ho.1, ho.2.1, HJ3.out.low.size, (HJ3.out.below hb).low⟩, ⟨by omega, by omega, by omega⟩, ⟨by omega, by omega, by omega⟩⟩)
          obtain ⟨qb, hqb⟩ : ∃ qb, w3.heap.size = qb := ⟨_, rfl⟩
          obtain ⟨v5, hv5⟩ : ∃ v5, w3.alloc (.cells C 48) = v5 := ⟨_, rfl⟩
          rw [hqb, hv5] at HQ0
          rw [hqb, hv5]
          clear hqb hv5 hst hsz HCc HJ3 HV3 HO3 hend
          go_loopw [13] (fun x wr => ∃ (j : Nat) (M : List Cw), x = .int .i64 j ∧ j ≤ n2 ∧ j ≤ 40 ∧ Hid (Jq w vb g c cb L db g' c' qb M a0 wr)) (fun x _ => n2 - (intOf x).toNat)
          case atStart => exact ⟨0, _, rfl, Nat.zero_le _, Nat.zero_le _, HQ0⟩
          case round =>
            clear HQ0
            obtain ⟨j, M, rfl, hj, hj2, HQ⟩ := hrel
            by_cases hjt : j < n2 ∧ j < 40
            · obtain ⟨hjt1, hjt2⟩ := hjt
              obtain ⟨ad, rfl, hab, h0, h1, h2, h3⟩ := act_at (HA2.out.below HQ.out.a.low (Nat.le_refl _)) (show j < l2.length by rw [HN2.out]; exact hjt1)
              obtain ⟨⟨dd, nd, vw, sg⟩, hx⟩ : ∃ x, l2[j]'(by rw [HN2.out]; exact hjt1) = x := ⟨_, rfl⟩
              have HFx := Lib.hid (show Ac.Came w ⟨dd, nd, vw, sg⟩ from hx ▸ HF2.out _ (List.getElem_mem _))
              rw [hx] at h0 h1 h2 h3
              simp only at h0 h1 h2 h3
              clear hx hab
              have HD := Lib.hid (cdo_any HQ.out.b.j (nd := nd) (vw := vw) (sg := sg) HFx.out.dd)
              go_wp2_with fail
              refine HD.out.mono ?_
              rintro e w6 ⟨rfl, M', hjj, ht⟩
              have HQ6 := Lib.hid (HQ.out.next hjj ht)
              clear hjj ht h0 h1 h2 h3
              go_wp2_with fail
              go_roundw
              case rel => exact ⟨j + 1, M', by go_num, by omega, by omega, HQ6⟩
              case measure => simp [intOf]; omega
            · have hend2 : (decide ((j : Int) < (n2 : Int)) && decide ((j : Int) < 40)) = false := by simp; omega
              have HR1 := Lib.hid (cright_any HQ.out.a.j)
              by_cases hj1 : j < n2
              · go_wp2_with fail
                refine HR1.out.mono ?_
                rintro e w6 ⟨rfl, hb6⟩
                have HQ6 := Lib.hid (HQ.out.below hb6)
                clear hb6
                go_wp2_with fail
                refine (cright_any HQ6.out.b.j).mono ?_
                rintro e w7 ⟨rfl, hb7⟩
                have HQ7 := Lib.hid (HQ6.out.below hb7)
                clear hb7
                go_wp2_with fail
                refine (wakes16_any _).mono ?_
                rintro e w9 ⟨rfl, hb9⟩
                go_wp2_with fail
                go_ret
                exact ⟨rfl, (HQ7.out.below hb9).a.low⟩
              · go_wp2_with fail
                refine HR1.out.mono ?_
                rintro e w6 ⟨rfl, hb6⟩
                have HQ6 := Lib.hid (HQ.out.below hb6)
                clear hb6
                go_wp2_with fail
                refine (cright_any HQ6.out.b.j).mono ?_
                rintro e w7 ⟨rfl, hb7⟩
                have HQ7 := Lib.hid (HQ6.out.below hb7)
                clear hb7
                go_wp2_with fail
                refine (wakes16_any _).mono ?_
                rintro e w9 ⟨rfl, hb9⟩
                go_wp2_with fail
                go_ret
                exact ⟨rfl, (HQ7.out.below hb9).a.low⟩
        · go_wp2_with fail
          refine (cvclone_any HJ.out.j.v).mono ?_
          rintro e w3 ⟨db, g', c', rfl, hv3, hdb, hg', hb3⟩
          have HJ3 := Lib.hid (HJ.out.below hb3)
          have HV3 := Lib.hid hv3
          have HO3 := Lib.hid (show w.heap.size ≤ db ∧ w.heap.size ≤ g' ∧ vb < g' ∧ g < g' ∧ cb < g' from by
            have h1 := HJ.out.j.lt
            have h2 := HJ.out.low.size
            omega)
          clear hv3 hdb hg' hb3 HJ
          have hst := dstore_cells w3 a0 L
          rw [HZ.out, show dqC a0 L = (dqL a0 (vD L) (sD L)).toArray from rfl] at hst
          have hsz : (dqL a0 (vD L) (sD L)).toArray.size = 27 := dqG_size _ _ _
          have hrow : w3.rangeAt cb 0 (dqL a0 (vD L) (sD L)) := fun j v hj => by
            rw [Nat.zero_add]
            exact (HJ3.out.j.d.cell j).trans ((List.getElem?_toArray (xs := dqL a0 (vD L) (sD L))).trans hj)
          have hinf := dinfo_size a0 (vD L) (sD L)
          rw [show (dqG a0 (vD L) (sD L)).size = (dqL a0 (vD L) (sD L)).length from by rw [dqG, List.size_toArray]] at hinf
          obtain ⟨C, hC⟩ : ∃ C, dqL a0 (vD L) (sD L) = C := ⟨_, rfl⟩
          have HCc := Lib.hid (show dqC a0 L = C.toArray from congrArg List.toArray hC)
          rw [hC] at hst hsz hrow hinf
          have HRow := Lib.hid hrow
          have HInf := Lib.hid hinf
          clear hC hrow hinf
          go_wp2_with (refine wpList_load_mid rfl 48 _ rfl cb 0 rfl C _ HRow.out Try.underlying48 rfl HInf.out ?_)
          generalize C.toArray = C at hst hsz HCc ⊢
          have HQ0 := Lib.hid (show Jq w vb g c cb L db g' c' w3.heap.size L a0 (w3.alloc (.cells C 48)) from by
            have hb : Below w3.heap.size w3 (w3.alloc (.cells C 48)) := (Below.refl _ _).alloc (Nat.le_refl _) _
            have ho := HO3.out
            have h1 := HJ3.out.j.lt
            exact ⟨HJ3.out.below hb, ⟨⟨HV3.out.below hb, HCc.out ▸ Blk.new _ _ _⟩, ho.1, ho.2.1, HJ3.out.low.size, (HJ3.out.below hb).low⟩, ⟨by omega, by omega, by omega⟩, ⟨by omega, by omega, by omega⟩⟩)
          obtain ⟨qb, hqb⟩ : ∃ qb, w3.heap.size = qb := ⟨_, rfl⟩
          obtain ⟨v5, hv5⟩ : ∃ v5, w3.alloc (.cells C 48) = v5 := ⟨_, rfl⟩
          rw [hqb, hv5] at HQ0
          rw [hqb, hv5]
          clear hqb hv5 hst hsz HCc HJ3 HV3 HO3 hend
          go_loopw [13] (fun x wr => ∃ (j : Nat) (M : List Cw), x = .int .i64 j ∧ j ≤ n2 ∧ j ≤ 40 ∧ Hid (Jq w vb g c cb L db g' c' qb M a0 wr)) (fun x _ => n2 - (intOf x).toNat)
          case atStart => exact ⟨0, _, rfl, Nat.zero_le _, Nat.zero_le _, HQ0⟩
          case round =>
            clear HQ0
            obtain ⟨j, M, rfl, hj, hj2, HQ⟩ := hrel
            by_cases hjt : j < n2 ∧ j < 40
            · obtain ⟨hjt1, hjt2⟩ := hjt
              obtain ⟨ad, rfl, hab, h0, h1, h2, h3⟩ := act_at (HA2.out.below HQ.out.a.low (Nat.le_refl _)) (show j < l2.length by rw [HN2.out]; exact hjt1)
              obtain ⟨⟨dd, nd, vw, sg⟩, hx⟩ : ∃ x, l2[j]'(by rw [HN2.out]; exact hjt1) = x := ⟨_, rfl⟩
              have HFx := Lib.hid (show Ac.Came w ⟨dd, nd, vw, sg⟩ from hx ▸ HF2.out _ (List.getElem_mem _))
              rw [hx] at h0 h1 h2 h3
              simp only at h0 h1 h2 h3
              clear hx hab
              have HD := Lib.hid (cdo_any HQ.out.b.j (nd := nd) (vw := vw) (sg := sg) HFx.out.dd)
              go_wp2_with fail
              refine HD.out.mono ?_
              rintro e w6 ⟨rfl, M', hjj, ht⟩
              have HQ6 := Lib.hid (HQ.out.next hjj ht)
              clear hjj ht h0 h1 h2 h3
              go_wp2_with fail
              go_roundw
              case rel => exact ⟨j + 1, M', by go_num, by omega, by omega, HQ6⟩
              case measure => simp [intOf]; omega
            · have hend2 : (decide ((j : Int) < (n2 : Int)) && decide ((j : Int) < 40)) = false := by simp; omega
              have HR1 := Lib.hid (cright_any HQ.out.a.j)
              by_cases hj1 : j < n2
              · go_wp2_with fail
                refine HR1.out.mono ?_
                rintro e w6 ⟨rfl, hb6⟩
                have HQ6 := Lib.hid (HQ.out.below hb6)
                clear hb6
                go_wp2_with fail
                refine (cright_any HQ6.out.b.j).mono ?_
                rintro e w7 ⟨rfl, hb7⟩
                have HQ7 := Lib.hid (HQ6.out.below hb7)
                clear hb7
                go_wp2_with fail
                refine (wakes16_any _).mono ?_
                rintro e w9 ⟨rfl, hb9⟩
                go_wp2_with fail
                go_ret
                exact ⟨rfl, (HQ7.out.below hb9).a.low⟩
              · go_wp2_with fail
                refine HR1.out.mono ?_
                rintro e w6 ⟨rfl, hb6⟩
                have HQ6 := Lib.hid (HQ.out.below hb6)
                clear hb6
                go_wp2_with fail
                refine (cright_any HQ6.out.b.j).mono ?_
                rintro e w7 ⟨rfl, hb7⟩
                have HQ7 := Lib.hid (HQ6.out.below hb7)
                clear hb7
                go_wp2_with fail
                refine (wakes16_any _).mono ?_
                rintro e w9 ⟨rfl, hb9⟩
                go_wp2_with fail
                go_ret
                exact ⟨rfl, (HQ7.out.below hb9).a.low⟩
  · have HO := Lib.hid (fun w => cvnew_out hf w)
    by_cases h1 : a0 < 1
    · have gf1 : decide (a0 < 1) = true := decide_eq_true h1
      clear hf h1
      go_enter Try.func4, Try.ntmps4
      go_wp2_with fail
      refine (HO.out _).mono ?_
      rintro e w3 ⟨rfl, rfl⟩
      go_wp2_with fail
      refine (wakes16_any _).mono ?_
      rintro e w9 ⟨rfl, hb9⟩
      go_wp2_with fail
      go_ret
      exact ⟨rfl, hb9⟩
    · have gf1 : decide (a0 < 1) = false := decide_eq_false h1
      have gf2 : decide (4 < a0) = true := decide_eq_true (by omega)
      clear hf h1
      go_enter Try.func4, Try.ntmps4
      go_wp2_with fail
      refine (HO.out _).mono ?_
      rintro e w3 ⟨rfl, rfl⟩
      go_wp2_with fail
      refine (wakes16_any _).mono ?_
      rintro e w9 ⟨rfl, hb9⟩
      go_wp2_with fail
      go_ret
      exact ⟨rfl, hb9⟩
end Go.Proofs.Ytfbipebijelfjaa
