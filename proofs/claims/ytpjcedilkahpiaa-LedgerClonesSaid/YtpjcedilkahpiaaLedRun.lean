/- Package ledger: Run. -/
import Derived.Test.YtpjcedilkahpiaaLedger
import Derived.Deep.WholeRow
namespace Go.Proofs.Ytpjcedilkahpiaa
open Go.RowKit Go.Maps
set_option linter.unusedSimpArgs false

theorem own_nil {w : World} {b n s c : Nat} {e : TypeId} {A : Option Addr} {xs : List Value} (h : w.ownsRow b e s (.slice A n c) n xs) : A = none → c = 0 := by
  rintro rfl
  rcases h.2 with ⟨e1, _⟩ | ⟨g, cap, cur, e1, _⟩
  · injection e1
  · injection e1 with e2; cases e2
/-- Where a ledger lies behind m requests that were executed. -/
def Lb.more (b : Lb) (m : Nat) : Lb := { b with N := b.N + m }
theorem Lb.more_zone (b : Lb) (m : Nat) {k : Nat} : (b.more m).zone k ↔ b.zone k := Iff.rfl
/-- While a batch is run. -/
structure LRun (w : World) (b : Lb) (s : Sc) (E : List En) (l : List Rq) (k : Nat) (v : Value) (wr : World) : Prop where
  lg : Lg wr (b.more (s.ran (l.take k)).length) (s.run (l.take k)) E
  row : wr.ownsRow w.heap.size 36 7 v (s.ran (l.take k)).length (entCells (s.ran (l.take k)))
  tn : Turn b.zone w wr
section
variable {w wr : World} {b : Lb} {s : Sc} {E : List En} {l : List Rq} {k : Nat} {v : Value}
theorem LRun.next_no {w2 : World} (h : LRun w b s E l k v wr) (hk : k < l.length) (hn : (s.run (l.take k)).is l[k] = false) (hb : Below wr.heap.size wr w2) : LRun w b s E l (k + 1) v w2 := by
  have e1 := Sc.run_take hk s
  have e2 := Sc.ran_take hk s
  rw [Sc.step_no hn] at e1
  rw [Sc.ents_no hn, List.append_nil] at e2
  refine ⟨?_, ?_, h.tn.trans (Turn.of_below hb)⟩
  · rw [e1, e2]; exact h.lg.below hb
  · rw [e2]; exact below_own h.row hb (Nat.le_refl _)
end
set_option maxRecDepth 100000 in
set_option maxHeartbeats 4000000 in
theorem lrun_any {w : World} {b : Lb} {s : Sc} {E : List En} (h : Lg w b s E) {A : Option Addr} {c n B : Nat} {l : List Rq} (hA : Has w B A (reqCells l)) (hz : ∀ ad, A = some ad → l ≠ [] → ¬ b.zone ad.block) (hn : l.length = n) (hN : b.N + n ≤ 1000000) :
    Calls Try.prog 19 #[.pointer (some ⟨b.lb, 0, none⟩), .slice A n c] w fun e w' =>
      ∃ v v2, e = .returned v ∧ Lg w' { b.more (s.ran l).length with v := v2 } (s.run l) (E ++ s.ran l) ∧ w'.ownsRow w.heap.size 36 7 v (s.ran l).length (entCells (s.ran l)) ∧
        (v2.ownBlock = b.v.ownBlock ∨ ∀ k, v2.ownBlock = some k → w.heap.size ≤ k) ∧ (∀ k, v.ownBlock = some k → v2.ownBlock ≠ some k) ∧ Turn b.zone w w' := by
  have HA := Lib.hid hA.tight
  have HZ := Lib.hid hz
  have HN := Lib.hid hN
  have HL := Lib.hid hn
  have HLt := Lib.hid (fun k (hk : b.zone k) => h.lt hk)
  have HF0 := Lib.hid h.few
  have HS0 := Lib.hid (show LRun w b s E l 0 (.slice none 0 0) w from ⟨h, World.ownsRow_nil _ _ _ _, Turn.refl _ _⟩)
  have hnm : n ≤ 1000000 := by omega
  clear h hA hz hN hn
  go_enter Try.func19, Try.ntmps19
  go_wp2_with fail
  go_loopw [5, 10] (fun v x wr => ∃ k : Nat, x = .int .i64 k ∧ k ≤ n ∧ Hid (LRun w b s E l k v wr)) (fun _ x _ => n - (intOf x).toNat)
  case atStart => exact ⟨0, rfl, Nat.zero_le _, HS0⟩
  case round =>
    obtain ⟨k, rfl, hk, HS⟩ := hrel
    obtain ⟨A1, c1, rfl, q1, q2⟩ := own_slice HS.out.row
    clear q1 q2
    by_cases hlt : k < n
    · have hkl : k < l.length := by rw [HL.out]; exact hlt
      have hA1 : Has wr w.heap.size A (reqCells l) := has_apart HA.out HS.out.tn (fun ad e hne => HZ.out ad e (fun h0 => hne (by rw [h0]; rfl)))
      obtain ⟨ad, rfl, hab, c0, d1, d2, d3, d4, d5⟩ := hA1.req hkl
      obtain ⟨r, hr⟩ : ∃ r, l[k] = r := ⟨_, rfl⟩
      rw [hr] at c0 d1 d2 d3 d4 d5
      have HR := Lib.hid hr
      have hst := fun w => run_storeCells_new (P := Try.prog) w 34 #[.int .i64 0, .int .i64 0, .int .i64 0, .int .i64 0, .int .i64 0, .int .i64 0] #[.int .i64 r.cl, .int .i64 r.tm, .int .i64 r.kd, .int .i64 r.ky, .int .i64 r.vl, .int .i64 r.sg] (by kernel_rfl) rfl (by simp [Value.oneCell'])
      have hb1 : Below wr.heap.size wr (wr.alloc (.cells #[.int .i64 r.cl, .int .i64 r.tm, .int .i64 r.kd, .int .i64 r.ky, .int .i64 r.vl, .int .i64 r.sg] 34)) := (Below.refl _ _).alloc (Nat.le_refl _) _
      have hk1 := Blk.new wr 34 #[.int .i64 r.cl, .int .i64 r.tm, .int .i64 r.kd, .int .i64 r.ky, .int .i64 r.vl, .int .i64 r.sg]
      have HL1 := Lib.hid (HS.out.lg.below hb1)
      have HB1 := Lib.hid hb1
      have hszw : (wr.alloc (.cells #[.int .i64 r.cl, .int .i64 r.tm, .int .i64 r.kd, .int .i64 r.ky, .int .i64 r.vl, .int .i64 r.sg] 34)).heap.size = wr.heap.size + 1 := by simp
      obtain ⟨w1, hw1⟩ : ∃ w1, wr.alloc (.cells #[.int .i64 r.cl, .int .i64 r.tm, .int .i64 r.kd, .int .i64 r.ky, .int .i64 r.vl, .int .i64 r.sg] 34) = w1 := ⟨_, rfl⟩
      rw [hw1] at hk1 HL1 HB1 hszw
      have HW1 := Lib.hid hw1
      have HK1 := Lib.hid hk1
      have HI := Lib.hid (lis_any HL1.out r)
      have HSz := Lib.hid hszw
      clear hb1 hk1 hw1 hr hA1 hab hszw
      go_upto_region 5 with fail
      rw [HW1.out]
      have t0 := HK1.out.cell 0
      have t1 := HK1.out.cell 1
      have t2 := HK1.out.cell 2
      have t3 := HK1.out.cell 3
      have t4 := HK1.out.cell 4
      have t5 := HK1.out.cell 5
      simp only [List.getElem?_toArray, List.getElem?_cons_zero, List.getElem?_cons_succ] at t0 t1 t2 t3 t4 t5
      clear c0 d1 d2 d3 d4 d5 hst
      go_wp2_with fail
      refine HI.out.mono ?_
      rintro e w2 ⟨rfl, hb2⟩
      have HB2 := Lib.hid (HB1.out.trans (hb2.mono (by have := HSz.out; omega)))
      have HK2 := Lib.hid (Blk.below HK1.out hb2 HK1.out.lt)
      have HL2 := Lib.hid (HL1.out.below hb2)
      have HZ2 := Lib.hid (show wr.heap.size < w2.heap.size by have := hb2.size; have := HSz.out; omega)
      clear hb2 t0 t1 t2 t3 t4 t5 HI
      by_cases hin : (s.run (l.take k)).is r = true
      · rw [hin]
        have HIn := Lib.hid hin
        have t0 := HK2.out.cell 0
        have t1 := HK2.out.cell 1
        have t2 := HK2.out.cell 2
        have t3 := HK2.out.cell 3
        have t4 := HK2.out.cell 4
        have t5 := HK2.out.cell 5
        simp only [List.getElem?_toArray, List.getElem?_cons_zero, List.getElem?_cons_succ] at t0 t1 t2 t3 t4 t5
        have HM := Lib.hid (show (s.ran (l.take k)).length ≤ k from Nat.le_trans (Sc.ran_len _ _) (by rw [List.length_take]; exact Nat.min_le_left _ _))
        have HX := Lib.hid (lexec_any HL2.out (show b.N + (s.ran (l.take k)).length ≤ 1000000 by have := HM.out; have := HN.out; omega) r)
        clear hin
        go_wp2_with fail
        refine HX.out.mono ?_
        rintro e w3 ⟨rfl, hl3, ht3⟩
        clear t0 t1 t2 t3 t4 t5
        obtain ⟨x, hx⟩ : ∃ x, (s.run (l.take k)).res r = x := ⟨_, rfl⟩
        rw [hx]
        have hr2 := below_own HS.out.row HB2.out (Nat.le_refl _)
        have hr3 := ht3.own hr2 (fun g hg hz => by
          have h1 := (HS.out.row.lt g hg).1
          have h2 := HLt.out g (hz.elim (fun e => Or.inr (Or.inr (Or.inl e))) (fun e => Or.inr (Or.inr (Or.inr (Or.inr (Or.inl e))))))
          omega)
        have hb4 : Below w3.heap.size w3 (w3.alloc (.cells #[.int .i64 r.cl, .int .i64 r.tm, .int .i64 r.kd, .int .i64 r.ky, .int .i64 r.vl, .int .i64 r.sg, .int .i64 x] 36)) := (Below.refl _ _).alloc (Nat.le_refl _) _
        have HO := Lib.hid (below_own hr3 hb4 (Nat.le_refl _))
        have HNw := Lib.hid (show Has (w3.alloc (.cells #[.int .i64 r.cl, .int .i64 r.tm, .int .i64 r.kd, .int .i64 r.ky, .int .i64 r.vl, .int .i64 r.sg, .int .i64 x] 36)) (w3.heap.size + 1) (some ⟨w3.heap.size, 0, none⟩) (entCells [⟨r, x⟩]) from Has.fresh w3 _ _)
        have HL4 := Lib.hid (hl3.below hb4)
        have HT3 := Lib.hid (show Turn b.zone w w3 from (HS.out.tn.trans (Turn.of_below HB2.out)).trans (ht3.mono (fun _ _ hz => hz.elim (fun e => Or.inr (Or.inr (Or.inl e))) (fun e => Or.inr (Or.inr (Or.inr (Or.inr (Or.inl e))))))))
        have HT4 := Lib.hid (HT3.out.trans (Turn.of_below hb4))
        have HOne := Lib.hid (entCells_one [⟨r, x⟩])
        have HM3 := Lib.hid (show (s.ran (l.take k)).length + 1 ≤ maxLen by have := HM.out; have := HN.out; unfold maxLen; omega)
        have HM4 := Lib.hid (show ((s.ran (l.take k)).length + 1) * 56 ≤ 140737488355328 by have := HM.out; have := HN.out; omega)
        have HXx := Lib.hid hx
        clear hr2 hr3 hb4 hl3 ht3 hx
        obtain ⟨i0, hi0, hx0, hx1, hx2⟩ := info_parts info_ent
        go_wp2_with (at_builtin; refine wpList_apps rfl _ _ 29 rfl w.heap.size 36 i0 _ 7 56 Try.underlying29 hi0 hx0 hx1 hx2 rfl (by decide) _ _ _ rfl HO.out _ (some ⟨w3.heap.size, 0, none⟩) 1 1 (entCells [⟨r, x⟩]) rfl rfl HNw.out (fun h => nomatch h) HOne.out HM3.out HM4.out HT4.out.size ?_)
        intro v2 w5 ho5 hg5 hl5
        have HS5 := Lib.hid (show LRun w b s E l (k + 1) v2 w5 from by
          have e1 := Sc.run_take hkl s
          have e2 := Sc.ran_take hkl s
          rw [HR.out, Sc.step_yes HIn.out] at e1
          rw [HR.out, Sc.ents_yes HIn.out, HXx.out] at e2
          refine ⟨?_, ?_, Turn.grown HT4.out hg5 (fun j hj hlt => ?_)⟩
          · rw [e1, e2, List.length_append]
            refine HL4.out.kept (Z := fun j => (Value.slice A1 (s.ran (l.take k)).length c1).ownBlock = some j) (Turn.grown (Turn.refl _ _) hg5 (fun j hj _ => hj)) (fun j hj hq => ?_)
            have h1 := (HS.out.row.lt j hq).1
            have h2 := HLt.out j hj
            omega
          · rw [e2, List.length_append, entCells_app]
            exact ho5
          · have h1 := (HS.out.row.lt j hj).1
            omega)
        clear ho5 hg5 hl5
        go_wp2_with fail
        go_roundw
        case rel => exact ⟨k + 1, by go_num, by omega, HS5⟩
        case measure => simp [intOf]; omega
      · have hin : (s.run (l.take k)).is r = false := by simpa using hin
        rw [hin]
        have HS2 := Lib.hid (HS.out.next_no hkl (by rw [HR.out]; exact hin) HB2.out)
        clear hin
        go_wp2_with fail
        go_roundw
        case rel => exact ⟨k + 1, by go_num, by omega, HS2⟩
        case measure => simp [intOf]; omega
    · obtain rfl : k = n := by omega
      clear hlt hk
      have he1 : l.take k = l := List.take_of_length_le (by rw [HL.out]; exact Nat.le_refl _)
      have hlg := HS.out.lg
      have hrow := HS.out.row
      rw [he1] at hlg hrow ⊢
      obtain ⟨A0, c0, hv, _, _⟩ := own_slice hlg.log
      have hv : b.v = .slice A0 E.length c0 := hv
      have hlog := hlg.log
      have hlog : wr.ownsRow 0 36 7 b.v E.length (entCells E) := hlog
      have hc1 : wr.cell? ⟨b.lb, 1, none⟩ = some b.v := (hlg.cells 0).2.1
      have hne : b.v.ownBlock ≠ some b.lb := hlg.ne.2.2.2.2.2.2.2.2.1
      have hblk : Blk wr b.lb 71 #[.int .i64 (s.run l).2.length, b.v, .pointer (some ⟨b.sb, 0, none⟩), .pointer (some ⟨b.cb, 0, none⟩)] := hlg.blk
      have HNil := Lib.hid (own_nil hrow)
      have HNw := Lib.hid (has_rows hrow)
      have HRow := Lib.hid hrow
      have HLg := Lib.hid hlg
      have HV := Lib.hid hv
      have HBk := Lib.hid hblk
      have HNe := Lib.hid hne
      rw [hv] at hlog hc1
      have HLog := Lib.hid hlog
      have HM := Lib.hid (show (s.ran l).length ≤ k from HL.out ▸ Sc.ran_len l s)
      have HT := Lib.hid HS.out.tn
      have HOne := Lib.hid (entCells_one (s.ran l))
      have HLen := Lib.hid (entCells_len (s.ran l))
      have HFew := Lib.hid (show E.length ≤ b.N + (s.ran l).length from hlg.few)
      have HM3 := Lib.hid (show E.length + (s.ran l).length ≤ maxLen by have h1 := HFew.out; have h2 := HM.out; have h3 := HN.out; unfold maxLen; omega)
      have HM4 := Lib.hid (show (E.length + (s.ran l).length) * 56 ≤ 140737488355328 by have h1 := HFew.out; have h2 := HM.out; have h3 := HN.out; omega)
      clear HS HS0 hv hlog hne hblk hlg hrow he1
      obtain ⟨i0, hi0, hx0, hx1, hx2⟩ := info_parts info_ent
      go_wp2_with (at_builtin; refine wpList_apps rfl _ _ 29 rfl 0 36 i0 _ 7 56 Try.underlying29 hi0 hx0 hx1 hx2 rfl (by decide) _ _ _ rfl HLog.out _ A1 (s.ran l).length c1 (entCells (s.ran l)) rfl HLen.out HNw.out HNil.out HOne.out HM3.out HM4.out (Nat.zero_le _) ?_)
      intro v2 w5 ho5 hg5 hl5
      obtain ⟨A2, c2, rfl, q1, q2⟩ := own_slice ho5
      clear q1 q2
      have hb5 : Blk w5 b.lb 71 _ := HBk.out.grown hg5 (by rw [← HV.out]; exact HNe.out.symm)
      have d1 := hb5.cell 1
      simp only [List.getElem?_toArray, List.getElem?_cons_zero, List.getElem?_cons_succ] at d1
      have f1 := hb5.frozen 1
      have HB5 := Lib.hid hb5
      have HO5 := Lib.hid ho5
      have HG5 := Lib.hid hg5
      have HL5 := Lib.hid hl5
      clear hb5 ho5 hg5 hl5
      go_wp2_with fail
      go_ret
      obtain ⟨m, hm⟩ : ∃ m, (s.ran l).length = m := ⟨_, rfl⟩
      have hlb : b.lb < w.heap.size := HLt.out _ (Or.inl rfl)
      have hwr := HT.out.size
      have hbv : ∀ j, b.v.ownBlock = some j → j < w.heap.size := fun j hj => HLt.out j (Or.inr (Or.inr (Or.inr (Or.inr (Or.inr hj)))))
      have hv1 : ∀ j, (Value.slice A1 (s.ran l).length c1).ownBlock = some j → w.heap.size ≤ j ∧ j < wr.heap.size := fun j hj => ⟨(HRow.out.lt j hj).1, (HRow.out.lt j hj).2⟩
      have hT5 : Turn (fun j => j = b.lb ∨ b.v.ownBlock = some j) wr w5 := Turn.grown (Turn.refl _ _) HG5.out (fun j hj _ => Or.inr (by rw [HV.out]; exact hj))
      have hT6 := hT5.set_ ⟨b.lb, 1, none⟩ (.slice A2 (E.length + (s.ran l).length) c2) (Or.inl rfl)
      have hl5 := HL5.out
      rw [← HV.out] at hl5
      obtain ⟨n1, n2, n3, n4, n5, n6, n7, n8, n9, n10, n11, n12, n13⟩ := HLg.out.ne
      have hB6 := HB5.out.set_ 1 (.slice A2 (E.length + (s.ran l).length) c2)
      simp only [List.setIfInBounds_toArray, List.set_cons_zero, List.set_cons_succ] at hB6
      refine ⟨_, _, rfl, ⟨hB6, ?_, ?_, ?_, ?_⟩, hT6.own HRow.out (fun j hj hz => ?_), ?_, fun j hj he => ?_, HT.out.trans (hT6.mono (fun j _ hz => ?_))⟩
      · rw [List.length_append, entCells_app]
        exact own_far HO5.out (by
          rcases hl5 with e | e
          · rw [e]; exact HNe.out
          · rw [e]; intro e2; injection e2 with e2; have e2 : wr.heap.size = b.lb := e2; omega) _
      · exact HLg.out.st.kept hT6 (fun hz => hz.elim (fun e => n1 e.symm) n10) (fun hz => hz.elim (fun e => n2 e.symm) n11)
      · exact HLg.out.ch.kept hT6 (fun hz => hz.elim (fun e => n3 e.symm) n12) (fun hz => hz.elim (fun e => n4 e.symm) n13)
      · rw [List.length_append]
        exact Nat.add_le_add_right HF0.out _
      · have h1 := hv1 j hj
        rcases hz with e | e
        · omega
        · have := hbv j e; omega
      · rcases hl5 with e | e
        · exact Or.inl e
        · refine Or.inr fun j hj => ?_
          have hj : (Value.slice A2 (E.length + (s.ran l).length) c2).ownBlock = some j := hj
          rw [e] at hj
          injection hj with hj
          omega
      · have h1 := hv1 j hj
        have he : (Value.slice A2 (E.length + (s.ran l).length) c2).ownBlock = some j := he
        rcases hl5 with e | e
        · have := hbv j (e ▸ he); omega
        · rw [e] at he
          injection he with he
          omega
      · rcases hz with e | e
        · exact Or.inl e
        · exact Or.inr (Or.inr (Or.inr (Or.inr (Or.inr e))))
/-- A ledger, all of whose blocks were made since w0. -/
structure Lx (w0 : World) (b : Lb) (s : Sc) (E : List En) (w : World) : Prop where
  lg : Lg w b s E
  low : Below w0.heap.size w0 w
  up : ∀ k, b.zone k → w0.heap.size ≤ k
theorem Lx.below {w0 w w2 : World} {b : Lb} {s : Sc} {E : List En} (h : Lx w0 b s E w) (hb : Below w.heap.size w w2) : Lx w0 b s E w2 := ⟨h.lg.below hb, h.low.trans (hb.mono h.low.size), h.up⟩
theorem Lx.drewN {w0 w : World} {b : Lb} {s : Sc} {E : List En} (h : Lx w0 b s E w) (n : Nat) : Lx w0 b s E (w.drewN n) := ⟨h.lg.drewN n, below_drewN h.low n, h.up⟩
/-- Kept where what has changed lies apart. -/
theorem Lx.kept {w0 w w2 : World} {b : Lb} {s : Sc} {E : List En} {Z : Nat → Prop} (h : Lx w0 b s E w) (ht : Turn Z w w2) (hz : ∀ k, b.zone k → ¬ Z k) (hl : ∀ k, Z k → w0.heap.size ≤ k) : Lx w0 b s E w2 :=
  ⟨h.lg.kept ht hz, h.low.trans (ht.below h.low.size (fun k hk hk2 => by have := hl k hk2; omega)), h.up⟩
theorem Has.off {w : World} {A : Option Addr} {B : Nat} {l : List Rq} {b : Lb} (h : Has w B A (reqCells l)) (hb : ∀ k, b.zone k → B ≤ k) : ∀ ad, A = some ad → l ≠ [] → ¬ b.zone ad.block := by
  rintro ad rfl hl hz
  cases l with
  | nil => exact hl rfl
  | cons r l =>
    obtain ⟨ad', e, h1, _⟩ := h 0 (.int .i64 r.cl) rfl
    cases e
    have := hb _ hz
    omega
/-- What Run leaves: the ledger moved on, the entries of the batch in a row of their own. -/
structure Ran (w0 : World) (b : Lb) (s : Sc) (E : List En) (l : List Rq) (w : World) (v : Value) (b' : Lb) (w' : World) : Prop where
  lx : Lx w0 b' (s.run l) (E ++ s.ran l) w'
  same : b'.lb = b.lb
  n : b'.N = b.N + (s.ran l).length
  row : w'.ownsRow w.heap.size 36 7 v (s.ran l).length (entCells (s.ran l))
  zone : ∀ k, b'.zone k → b.zone k ∨ w.heap.size ≤ k
  off : ∀ k, v.ownBlock = some k → ¬ b'.zone k
  tn : Turn b.zone w w'
theorem lx_run {w0 w : World} {b : Lb} {s : Sc} {E : List En} (h : Lx w0 b s E w) {A : Option Addr} {c n B : Nat} {l : List Rq} (hA : Has w B A (reqCells l)) (hz : ∀ ad, A = some ad → l ≠ [] → ¬ b.zone ad.block) (hn : l.length = n) (hN : b.N + n ≤ 1000000) :
    Calls Try.prog 19 #[.pointer (some ⟨b.lb, 0, none⟩), .slice A n c] w fun e w' => ∃ v b', e = .returned v ∧ Ran w0 b s E l w v b' w' :=
  (lrun_any h.lg hA hz hn hN).mono fun e w' ⟨v, v2, he, hl, hr, h2, h3, ht⟩ => by
    have hs := h.low.size
    have hzn : ∀ k, ({ b.more (s.ran l).length with v := v2 } : Lb).zone k → b.zone k ∨ w.heap.size ≤ k := fun k hk => by
      rcases hk with e | e | e | e | e | e
      · exact Or.inl (Or.inl e)
      · exact Or.inl (Or.inr (Or.inl e))
      · exact Or.inl (Or.inr (Or.inr (Or.inl e)))
      · exact Or.inl (Or.inr (Or.inr (Or.inr (Or.inl e))))
      · exact Or.inl (Or.inr (Or.inr (Or.inr (Or.inr (Or.inl e)))))
      · rcases h2 with h2 | h2
        · exact Or.inl (Or.inr (Or.inr (Or.inr (Or.inr (Or.inr (h2 ▸ e))))))
        · exact Or.inr (h2 k e)
    refine ⟨v, _, he, ⟨hl, h.low.trans (ht.below hs (fun k hk hk2 => by have := h.up k hk2; omega)), fun k hk => (hzn k hk).elim (h.up k) (fun h1 => by omega)⟩, rfl, rfl, hr, hzn, fun k hk hz2 => ?_, ht⟩
    have hk1 := (hr.lt k hk).1
    have hlt : ∀ j, b.zone j → j < w.heap.size := fun j hj => h.lg.lt hj
    rcases hz2 with e | e | e | e | e | e
    · have := hlt k (Or.inl e); omega
    · have := hlt k (Or.inr (Or.inl e)); omega
    · have := hlt k (Or.inr (Or.inr (Or.inl e))); omega
    · have := hlt k (Or.inr (Or.inr (Or.inr (Or.inl e)))); omega
    · have := hlt k (Or.inr (Or.inr (Or.inr (Or.inr (Or.inl e))))); omega
    · exact h3 k hk e
theorem lx_new {n : Nat} (h1 : 1 ≤ n) (h4 : n ≤ 4) (w0 w : World) (hw : Below w0.heap.size w0 w) : Calls Try.prog 18 #[.int .i64 (n : Int)] w fun e w' => ∃ b : Lb, e = .returned (.tuple #[.pointer (some ⟨b.lb, 0, none⟩), .int .i64 0]) ∧ Lx w0 b (Sc.new n) [] w' ∧ b.N = 0 ∧ (∀ k, b.zone k → w.heap.size ≤ k) ∧ Below w.heap.size w w' :=
  (lnew_any h1 h4 w).mono fun _ _ ⟨b, he, hl, hN, hz, hb⟩ => ⟨b, he, ⟨hl, hw.trans (hb.mono hw.size), fun k hk => Nat.le_trans hw.size (hz k hk)⟩, hN, hz, hb⟩
end Go.Proofs.Ytpjcedilkahpiaa
