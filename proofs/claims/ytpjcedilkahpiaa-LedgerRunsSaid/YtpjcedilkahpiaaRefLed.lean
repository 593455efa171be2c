/- The document's own ledger: its cells; Run. -/
import Derived.Test.YtpjcedilkahpiaaLedStore2
import Derived.Test.YtpjcedilkahpiaaLedRun
import Derived.Test.YtpjcedilkahpiaaLedger2
import Derived.Test.YtpjcedilkahpiaaFold12
import Derived.Deep.WholeRow
namespace Go.Proofs.Ytpjcedilkahpiaa
open Go.RowKit
set_option linter.unusedSimpArgs false

/-- Times, results, and the log of the document's ledger. -/
def zC (L : List (Int × Int)) (A : Option Addr) (m c : Nat) : Array Value :=
  #[.int .i64 (atL L 0).1, .int .i64 (atL L 1).1, .int .i64 (atL L 2).1, .int .i64 (atL L 3).1, .int .i64 (atL L 0).2, .int .i64 (atL L 1).2, .int .i64 (atL L 2).2, .int .i64 (atL L 3).2, .slice A m c]
section
variable (L : List (Int × Int)) (A : Option Addr) (m c : Nat)
theorem zC_time {i : Nat} (h : i < 4) : (zC L A m c)[i]? = some (.int .i64 (atL L i).1) := by
  have : i = 0 ∨ i = 1 ∨ i = 2 ∨ i = 3 := by omega
  rcases this with rfl | rfl | rfl | rfl <;> rfl
theorem zC_res {i : Nat} (h : i < 4) : (zC L A m c)[4 + i]? = some (.int .i64 (atL L i).2) := by
  have : i = 0 ∨ i = 1 ∨ i = 2 ∨ i = 3 := by omega
  rcases this with rfl | rfl | rfl | rfl <;> rfl
theorem zC_log : (zC L A m c)[8]? = some (.slice A m c) := rfl
theorem zC_put {M : List (Int × Int)} {i : Nat} (h : i < 4) {t r : Int} (hM : ∀ j : Int, atL M j = if j = (i : Int) then (t, r) else atL L j) : ((zC L A m c).setIfInBounds i (.int .i64 t)).setIfInBounds (4 + i) (.int .i64 r) = zC M A m c := by
  have : i = 0 ∨ i = 1 ∨ i = 2 ∨ i = 3 := by omega
  unfold zC
  rw [hM 0, hM 1, hM 2, hM 3]
  rcases this with rfl | rfl | rfl | rfl <;> rfl
theorem zC_put2 {M : List (Int × Int)} {i : Nat} (h : i < 4) {t r : Int} (hM : ∀ j : Int, atL M j = if j = (i : Int) then (t, r) else atL L j) : ((zC L A m c).setIfInBounds (4 + i) (.int .i64 r)).setIfInBounds i (.int .i64 t) = zC M A m c := by
  have : i = 0 ∨ i = 1 ∨ i = 2 ∨ i = 3 := by omega
  unfold zC
  rw [hM 0, hM 1, hM 2, hM 3]
  rcases this with rfl | rfl | rfl | rfl <;> rfl
theorem zC_set_log (A' : Option Addr) (m' c' : Nat) : (zC L A m c).setIfInBounds 8 (.slice A' m' c') = zC L A' m' c' := rfl
end
/-- Where the document's ledger lies. -/
structure Rb where
  rb : Nat
  A : Option Addr
  c : Nat
def Rb.zone (r : Rb) (k : Nat) : Prop := k = r.rb ∨ ∃ ad, r.A = some ad ∧ ad.block = k
/-- The document's ledger tells. -/
structure Rl (w : World) (r : Rb) (s : Sc) (E : List En) : Prop where
  blk : Blk w r.rb 59 (ledCells s.2.length s.1 (zC s.2 r.A E.length r.c))
  has : Has w w.heap.size r.A (entCells E)
  nil : r.A = none → r.c = 0
  le : E.length ≤ r.c
  n4 : s.2.length ≤ 4
  ok : s.1.Ok
  off : ∀ ad, r.A = some ad → ad.block ≠ r.rb ∧ ad.block < w.heap.size
section
variable {w w' : World} {r : Rb} {s : Sc} {E : List En}
theorem Rl.lt (h : Rl w r s E) {k : Nat} (hk : r.zone k) : k < w.heap.size := by
  rcases hk with rfl | ⟨ad, e, rfl⟩
  · exact h.blk.lt
  · exact (h.off ad e).2
theorem Rl.kept {Z : Nat → Prop} (h : Rl w r s E) (ht : Turn Z w w') (hz : ∀ k, r.zone k → ¬ Z k) : Rl w' r s E :=
  ⟨ht.blk h.blk (hz _ (Or.inl rfl)), (ht.has h.has (fun ad e => hz _ (Or.inr ⟨ad, e, rfl⟩))).tight, h.nil, h.le, h.n4, h.ok, fun ad e => ⟨(h.off ad e).1, Nat.lt_of_lt_of_le (h.off ad e).2 ht.size⟩⟩
theorem Rl.below (h : Rl w r s E) (hb : Below w.heap.size w w') : Rl w' r s E := h.kept (Turn.of_below (Z := fun _ => False) hb) (fun _ _ => id)
theorem Rl.drewN (h : Rl w r s E) (n : Nat) : Rl (w.drewN n) r s E := h.kept ((Turn.refl (fun _ => False) w).drewN n) (fun _ _ => id)
theorem Rl.cell (h : Rl w r s E) (n : Nat) : (w.drewN n).cell? ⟨r.rb, 0, none⟩ = some (.int .i64 s.2.length) := ((h.drewN n).blk.cell 0).trans (led_zero _ _ _)
theorem Rl.time (h : Rl w r s E) (n : Nat) {i : Nat} (hi : i < 4) : (w.drewN n).cell? ⟨r.rb, 129 + i, none⟩ = some (.int .i64 (atL s.2 i).1) := ((h.drewN n).blk.cell (129 + i)).trans ((led_rest _ _ _ i).trans (zC_time _ _ _ _ hi))
theorem Rl.res (h : Rl w r s E) (n : Nat) {i : Nat} (hi : i < 4) : (w.drewN n).cell? ⟨r.rb, 133 + i, none⟩ = some (.int .i64 (atL s.2 i).2) := by
  rw [show 133 + i = 129 + (4 + i) by omega]
  exact ((h.drewN n).blk.cell (129 + (4 + i))).trans ((led_rest _ _ _ _).trans (zC_res _ _ _ _ hi))
theorem Rl.log (h : Rl w r s E) (n : Nat) : (w.drewN n).cell? ⟨r.rb, 137, none⟩ = some (.slice r.A E.length r.c) := ((h.drewN n).blk.cell (129 + 8)).trans ((led_rest _ _ _ 8).trans (zC_log _ _ _ _))
end
theorem Sc.ok_step {s : Sc} (h : s.1.Ok) (r : Rq) : (s.step r).1.Ok := by
  unfold Sc.step
  split
  · exact storeS_ok h _ _ _
  · exact h
/-- Several ways that end in one goal but for a block and a world: proved once, behind them. -/
theorem one_end2 {R : Prop} {F P : Nat → World → Prop} (k : (∀ g w, F g w → P g w) → R) (h : ∀ g w, F g w → P g w) : R := k h
/-- While a batch is run. -/
structure RRun (w : World) (r : Rb) (s : Sc) (E : List En) (l : List Rq) (k : Nat) (v : Value) (wr : World) : Prop where
  rl : Rl wr r (s.run (l.take k)) E
  row : wr.ownsRow w.heap.size 36 7 v (s.ran (l.take k)).length (entCells (s.ran (l.take k)))
  tn : Turn (fun j => j = r.rb) w wr
theorem RRun.next_no {w wr w2 : World} {r : Rb} {s : Sc} {E : List En} {l : List Rq} {k : Nat} {v : Value} (h : RRun w r s E l k v wr) (hk : k < l.length) (hn : (s.run (l.take k)).is l[k] = false) (hb : Below wr.heap.size wr w2) : RRun w r s E l (k + 1) v w2 := by
  have e1 := Sc.run_take hk s
  have e2 := Sc.ran_take hk s
  rw [Sc.step_no hn] at e1
  rw [Sc.ents_no hn, List.append_nil] at e2
  refine ⟨?_, ?_, h.tn.trans (Turn.of_below hb)⟩
  · rw [e1]; exact h.rl.below hb
  · rw [e2]; exact below_own h.row hb (Nat.le_refl _)
set_option maxRecDepth 100000 in
set_option maxHeartbeats 8000000 in
theorem rrun_any {w : World} {r : Rb} {s : Sc} {E : List En} (h : Rl w r s E) (hE : E.length ≤ 100000) {A : Option Addr} {c n B : Nat} {l : List Rq} (hA : Has w B A (reqCells l)) (hz : ∀ ad, A = some ad → l ≠ [] → ad.block ≠ r.rb) (hn : l.length = n) (hN : n ≤ 100000) :
    Calls Try.prog 28 #[.pointer (some ⟨r.rb, 0, none⟩), .slice A n c] w fun e w' =>
      ∃ v A' c', e = .returned v ∧ Rl w' ⟨r.rb, A', c'⟩ (s.run l) (E ++ s.ran l) ∧ w'.ownsRow w.heap.size 36 7 v (s.ran l).length (entCells (s.ran l)) ∧
        (∀ ad, A' = some ad → w.heap.size ≤ ad.block) ∧ (∀ ad k, A' = some ad → v.ownBlock = some k → ad.block ≠ k) ∧ Turn (fun k => k = r.rb) w w' := by
  have HA := Lib.hid hA.tight
  have HZ := Lib.hid hz
  have HL := Lib.hid hn
  have HE := Lib.hid hE
  have HLt := Lib.hid (show r.rb < w.heap.size from h.blk.lt)
  have HLr := Lib.hid (fun ad (e : r.A = some ad) => (h.off ad e).2)
  have HS0 := Lib.hid (show RRun w r s E l 0 (.slice none 0 0) w from ⟨h, World.ownsRow_nil _ _ _ _, Turn.refl _ _⟩)
  clear h hA hz hn hE
  go_enter Try.func28, Try.ntmps28
  go_wp2_with fail
  go_loopw [5, 6] (fun v x wr => ∃ k : Nat, x = .int .i64 k ∧ k ≤ n ∧ Hid (RRun w r s E l k v wr)) (fun _ x _ => n - (intOf x).toNat)
  case atStart => exact ⟨0, rfl, Nat.zero_le _, HS0⟩
  case round =>
    obtain ⟨k, rfl, hk, HS⟩ := hrel
    obtain ⟨A1, c1, rfl, -, -⟩ := own_slice HS.out.row
    by_cases hlt : k < n
    · have hkl : k < l.length := by rw [HL.out]; exact hlt
      have hA1 : Has wr w.heap.size A (reqCells l) := has_apart HA.out HS.out.tn (fun ad e hne => HZ.out ad e (fun h0 => hne (by rw [h0]; rfl)))
      obtain ⟨ad, rfl, -, c0, d1, d2, d3, d4, d5⟩ := hA1.req hkl
      obtain ⟨q, hq⟩ : ∃ q, l[k] = q := ⟨_, rfl⟩
      rw [hq] at c0 d1 d2 d3 d4 d5
      have HQ := Lib.hid hq
      have hst := fun w => run_storeCells_new (P := Try.prog) w 34 #[.int .i64 0, .int .i64 0, .int .i64 0, .int .i64 0, .int .i64 0, .int .i64 0] #[.int .i64 q.cl, .int .i64 q.tm, .int .i64 q.kd, .int .i64 q.ky, .int .i64 q.vl, .int .i64 q.sg] (by kernel_rfl) rfl (by simp [Value.oneCell'])
      have hb1 : Below wr.heap.size wr (wr.alloc (.cells #[.int .i64 q.cl, .int .i64 q.tm, .int .i64 q.kd, .int .i64 q.ky, .int .i64 q.vl, .int .i64 q.sg] 34)) := (Below.refl _ _).alloc (Nat.le_refl _) _
      have hk1 := Blk.new wr 34 #[.int .i64 q.cl, .int .i64 q.tm, .int .i64 q.kd, .int .i64 q.ky, .int .i64 q.vl, .int .i64 q.sg]
      have HR1 := Lib.hid (HS.out.rl.below hb1)
      have HB1 := Lib.hid hb1
      have HRb := Lib.hid (show r.rb < wr.heap.size from HS.out.rl.blk.lt)
      obtain ⟨H, hH⟩ : ∃ H, wr.heap.size = H := ⟨_, rfl⟩
      obtain ⟨w1, hw1⟩ : ∃ w1, wr.alloc (.cells #[.int .i64 q.cl, .int .i64 q.tm, .int .i64 q.kd, .int .i64 q.ky, .int .i64 q.vl, .int .i64 q.sg] 34) = w1 := ⟨_, rfl⟩
      rw [hw1] at hk1 HR1 HB1
      rw [hH] at hk1 HRb HB1
      have HW1 := Lib.hid hw1
      have HHh := Lib.hid hH
      have HK1 := Lib.hid hk1
      clear hb1 hw1 hq hA1 hH
      go_upto_region 6 with fail
      rw [HW1.out, HHh.out]
      clear c0 d1 d2 d3 d4 d5 hst
      have t0 := HK1.out.cell 0
      have t1 := HK1.out.cell 1
      simp only [List.getElem?_toArray, List.getElem?_cons_zero, List.getElem?_cons_succ] at t0 t1
      have m0 : w1.cell? ⟨r.rb, 0, none⟩ = some (.int .i64 (s.run (l.take k)).2.length) := HR1.out.cell 0
      obtain ⟨nn, hnn⟩ : ∃ n, (s.run (l.take k)).2.length = n := ⟨_, rfl⟩
      rw [hnn] at m0
      have HNn := Lib.hid hnn
      have hn4 : nn ≤ 4 := hnn ▸ HR1.out.n4
      clear hk1
      by_cases hin : (s.run (l.take k)).is q = true
      · obtain ⟨⟨i1, i2⟩, i3⟩ := Sc.is_true hin
        rw [hnn] at i2
        obtain ⟨j, hj⟩ := Int.eq_ofNat_of_zero_le i1
        rw [hj] at i2 i3 t0
        have hj4 : j < 4 := by omega
        have m1 : w1.cell? ⟨r.rb, 129 + j, none⟩ = _ := HR1.out.time 0 hj4
        obtain ⟨t, ht⟩ : ∃ t, (atL (s.run (l.take k)).2 (j : Int)).1 = t := ⟨_, rfl⟩
        rw [ht] at m1 i3
        have g1 : decide ((j : Int) < 0) = false := decide_eq_false (by omega)
        have g2 : decide ((j : Int) ≥ (nn : Int)) = false := decide_eq_false (by omega)
        have g3 : decide (q.tm ≤ t) = false := decide_eq_false (by omega)
        go_wp2_with fail
        have gq : decide (nn ≤ j) = false := decide_eq_false (by omega)
        go_big_quiet (fail)
        have hat := fun i => Sc.done_at (s := s.run (l.take k)) (r := q) hin i
        have hst1 := Sc.step_yes hin
        have hen1 := Sc.ents_yes hin
        have hlen1 := Sc.done_len (s.run (l.take k)) q
        obtain ⟨w2, hw2⟩ : ∃ w2, w1.drewN nq = w2 := ⟨_, rfl⟩
        have HR2 := Lib.hid (show Rl w2 r (s.run (l.take k)) E from hw2 ▸ HR1.out.drewN nq)
        have HK2 := Lib.hid (show Blk w2 H 34 #[.int .i64 q.cl, .int .i64 q.tm, .int .i64 q.kd, .int .i64 q.ky, .int .i64 q.vl, .int .i64 q.sg] from hw2 ▸ HK1.out.drewN nq)
        have HB2 := Lib.hid (show Below H wr w2 from hw2 ▸ below_drewN HB1.out nq)
        have hr2 : Rd (nn : Int) (zC (s.run (l.take k)).2 r.A E.length r.c) w2.drew r.rb (s.run (l.take k)).1 := by
          have := (HR2.out.drewN 1).blk
          rw [hnn] at this
          exact this
        have KA := Lib.hid (dapply_any hr2 HR2.out.ok q.kd q.ky q.vl)
        obtain ⟨x, hx⟩ : ∃ x, (s.run (l.take k)).res q = x := ⟨_, rfl⟩
        have hst2 : storeS (s.run (l.take k)).1 q.kd q.ky q.vl = (x, ((s.run (l.take k)).done q).1) := by rw [← hx]; rfl
        rw [hst2] at KA
        rw [hx] at hat hen1
        have HJ := Lib.hid hj
        rw [hj] at hat
        have HAt := Lib.hid hat
        have HSt1 := Lib.hid hst1
        have HEn1 := Lib.hid hen1
        have HLen1 := Lib.hid (hlen1.trans hnn)
        have HOk := Lib.hid (show ((s.run (l.take k)).step q).1.Ok from Sc.ok_step HR1.out.ok q)
        have hkz : Below w2.heap.size w2 ((w2.alloc (.cells #[.int .i64 0, .int .i64 0, .int .i64 0, .int .i64 0, .int .i64 0, .int .i64 0, .int .i64 0] 36)).drew) := ((Below.refl w2.heap.size w2).alloc (Nat.le_refl _) _).drew
        have hkb : Blk ((w2.alloc (.cells #[.int .i64 0, .int .i64 0, .int .i64 0, .int .i64 0, .int .i64 0, .int .i64 0, .int .i64 0] 36)).drew) H 34 #[.int .i64 q.cl, .int .i64 q.tm, .int .i64 q.kd, .int .i64 q.ky, .int .i64 q.vl, .int .i64 q.sg] := Blk.below HK2.out hkz HK2.out.lt
        have hzb : Blk ((w2.alloc (.cells #[.int .i64 0, .int .i64 0, .int .i64 0, .int .i64 0, .int .i64 0, .int .i64 0, .int .i64 0] 36)).drew) w2.heap.size 36 #[.int .i64 0, .int .i64 0, .int .i64 0, .int .i64 0, .int .i64 0, .int .i64 0, .int .i64 0] := (Blk.new w2 _ _).drew
        have hrz : Rd (nn : Int) (zC (s.run (l.take k)).2 r.A E.length r.c) ((w2.alloc (.cells #[.int .i64 0, .int .i64 0, .int .i64 0, .int .i64 0, .int .i64 0, .int .i64 0, .int .i64 0] 36)).drew) r.rb (s.run (l.take k)).1 := Blk.below (show Blk w2 r.rb _ _ from hr2) hkz (show Blk w2 r.rb _ _ from hr2).lt
        have KB := Lib.hid (dapply_any hrz HR2.out.ok q.kd q.ky q.vl)
        rw [hst2] at KB
        have HKb := Lib.hid hkb
        have HZb := Lib.hid hzb
        have HKz := Lib.hid hkz
        have HSw := Lib.hid (show r.rb < w2.heap.size ∧ H < w2.heap.size from ⟨(show Blk w2 r.rb _ _ from hr2).lt, HK2.out.lt⟩)
        have hkd : Blk w2.drew H 34 #[.int .i64 q.cl, .int .i64 q.tm, .int .i64 q.kd, .int .i64 q.ky, .int .i64 q.vl, .int .i64 q.sg] := HK2.out.drewN 1
        have k0 := hkd.cell 0
        have k1 := hkd.cell 1
        have k2 := hkd.cell 2
        have k3 := hkd.cell 3
        have k4 := hkd.cell 4
        have k5 := hkd.cell 5
        simp only [List.getElem?_toArray, List.getElem?_cons_zero, List.getElem?_cons_succ] at k0 k1 k2 k3 k4 k5
        have b0 := hkb.cell 0
        have b1 := hkb.cell 1
        have b2 := hkb.cell 2
        have b3 := hkb.cell 3
        have b4 := hkb.cell 4
        have b5 := hkb.cell 5
        simp only [List.getElem?_toArray, List.getElem?_cons_zero, List.getElem?_cons_succ] at b0 b1 b2 b3 b4 b5
        have hst7 := fun w => run_storeCells_new (P := Try.prog) w 36 #[.int .i64 0, .int .i64 0, .int .i64 0, .int .i64 0, .int .i64 0, .int .i64 0, .int .i64 0] #[.int .i64 q.cl, .int .i64 q.tm, .int .i64 q.kd, .int .i64 q.ky, .int .i64 q.vl, .int .i64 q.sg, .int .i64 x] (by kernel_rfl) rfl (by simp [Value.oneCell'])
        rw [hw2]
        clear hat hst1 hen1 hlen1 hr2 hx hst2 hin hj ht hw2 HR1 HK1 t0 t1 m0 m1 g1 g2 g3 gq hnn hkz hkb hzb hrz hkd
        go_wp2_with fail
        apply one_end2 (F := fun g w4 => Rd (nn : Int) (zC (s.run (l.take k)).2 r.A E.length r.c) w4 r.rb ((s.run (l.take k)).done q).1 ∧ Blk w4 H 34 #[.int .i64 q.cl, .int .i64 q.tm, .int .i64 q.kd, .int .i64 q.ky, .int .i64 q.vl, .int .i64 q.sg] ∧ Blk w4 g 36 #[.int .i64 q.cl, .int .i64 q.tm, .int .i64 q.kd, .int .i64 q.ky, .int .i64 q.vl, .int .i64 q.sg, .int .i64 x] ∧ Turn (fun j => j = r.rb) w2 w4 ∧ w2.heap.size ≤ g)
        · intro hfin
          have HFin := Lib.hid hfin
          clear hfin
          go_region_law (go_simp; go_at_call 45; first
            | (refine KA.out.mono ?_
               rintro e w3 ⟨rfl, hR3, ht3⟩
               have hk3 := ht3.blk (HK2.out.drewN 1) (by have := HSw.out; have := HRb.out; omega)
               have z0 := hk3.cell 0
               have z1 := hk3.cell 1
               have z2 := hk3.cell 2
               have z3 := hk3.cell 3
               have z4 := hk3.cell 4
               have z5 := hk3.cell 5
               have hka := hk3.alloc (.cells #[.int .i64 0, .int .i64 0, .int .i64 0, .int .i64 0, .int .i64 0, .int .i64 0, .int .i64 0] 36)
               have a0 := hka.cell 0
               have a1 := hka.cell 1
               have a2 := hka.cell 2
               have a3 := hka.cell 3
               have a4 := hka.cell 4
               have a5 := hka.cell 5
               simp only [List.getElem?_toArray, List.getElem?_cons_zero, List.getElem?_cons_succ] at z0 z1 z2 z3 z4 z5 a0 a1 a2 a3 a4 a5)
            | (refine KB.out.mono ?_
               rintro e w3 ⟨rfl, hR3, ht3⟩
               have hk3 := ht3.blk HKb.out (by have := HSw.out; have := HRb.out; omega)
               have hz3 := ht3.blk HZb.out (by have := HSw.out; omega)
               have z0 := hk3.cell 0
               have z1 := hk3.cell 1
               have z2 := hk3.cell 2
               have z3 := hk3.cell 3
               have z4 := hk3.cell 4
               have z5 := hk3.cell 5
               have y0 := hz3.cell 0
               have y1 := hz3.cell 1
               have y2 := hz3.cell 2
               have y3 := hz3.cell 3
               have y4 := hz3.cell 4
               have y5 := hz3.cell 5
               have y6 := hz3.cell 6
               have fz := fun i => hz3.frozen i
               simp only [List.getElem?_toArray, List.getElem?_cons_zero, List.getElem?_cons_succ] at z0 z1 z2 z3 z4 z5 y0 y1 y2 y3 y4 y5 y6))
          all_goals first
            | (obtain ⟨w4, hw4⟩ : ∃ w4, w3.alloc (.cells #[.int .i64 q.cl, .int .i64 q.tm, .int .i64 q.kd, .int .i64 q.ky, .int .i64 q.vl, .int .i64 q.sg, .int .i64 x] 36) = w4 := ⟨_, rfl⟩
               obtain ⟨g, hg⟩ : ∃ g, w3.heap.size = g := ⟨_, rfl⟩
               have hb4 : Below w3.heap.size w3 w4 := hw4 ▸ (Below.refl _ _).alloc (Nat.le_refl _) _
               have hn4' : Blk w4 g 36 #[.int .i64 q.cl, .int .i64 q.tm, .int .i64 q.kd, .int .i64 q.ky, .int .i64 q.vl, .int .i64 q.sg, .int .i64 x] := hg ▸ hw4 ▸ Blk.new w3 _ _
               have hr4 : Rd (nn : Int) (zC (s.run (l.take k)).2 r.A E.length r.c) w4 r.rb ((s.run (l.take k)).done q).1 := Blk.below hR3 hb4 (Blk.lt hR3)
               have ht4 : Turn (fun j => j = r.rb) w2 w4 := (((Turn.refl _ w2).drewN 1).trans ht3).trans (Turn.of_below hb4)
               have hk4 := Blk.below hk3 hb4 hk3.lt
               have hgg : w2.heap.size ≤ g := hg ▸ ht3.size
               rw [hw4, hg]
               exact HFin.out g w4 ⟨hr4, hk4, hn4', ht4, hgg⟩)
            | (obtain ⟨w4, hw4⟩ : ∃ w4, (((((((w3).setCell ⟨w2.heap.size, 0, none⟩ (.int .i64 q.cl)).setCell ⟨w2.heap.size, 1, none⟩ (.int .i64 q.tm)).setCell ⟨w2.heap.size, 2, none⟩ (.int .i64 q.kd)).setCell ⟨w2.heap.size, 3, none⟩ (.int .i64 q.ky)).setCell ⟨w2.heap.size, 4, none⟩ (.int .i64 q.vl)).setCell ⟨w2.heap.size, 5, none⟩ (.int .i64 q.sg)).setCell ⟨w2.heap.size, 6, none⟩ (.int .i64 x) = w4 := ⟨_, rfl⟩
               obtain ⟨g, hg⟩ : ∃ g, w2.heap.size = g := ⟨_, rfl⟩
               have hn4' : Blk w4 g 36 #[.int .i64 q.cl, .int .i64 q.tm, .int .i64 q.kd, .int .i64 q.ky, .int .i64 q.vl, .int .i64 q.sg, .int .i64 x] := by
                 have := ((((((hz3.set_ 0 (.int .i64 q.cl)).set_ 1 (.int .i64 q.tm)).set_ 2 (.int .i64 q.kd)).set_ 3 (.int .i64 q.ky)).set_ 4 (.int .i64 q.vl)).set_ 5 (.int .i64 q.sg)).set_ 6 (.int .i64 x)
                 rw [hw4, hg] at this
                 simpa only [List.setIfInBounds_toArray, List.set_cons_zero, List.set_cons_succ] using this
               have ht34 : Turn (fun j => j = w2.heap.size) w3 w4 := by
                 rw [← hw4]
                 exact (((((((Turn.refl (fun j => j = w2.heap.size) w3).set_ _ _ rfl).set_ _ _ rfl).set_ _ _ rfl).set_ _ _ rfl).set_ _ _ rfl).set_ _ _ rfl).set_ _ _ rfl
               have hr4 : Rd (nn : Int) (zC (s.run (l.take k)).2 r.A E.length r.c) w4 r.rb ((s.run (l.take k)).done q).1 := ht34.blk hR3 (by have := HSw.out; omega)
               have ht4 : Turn (fun j => j = r.rb) w2 w4 := (((Turn.of_below HKz.out).trans ((ht3.mono (fun _ _ e => Or.inl e)).trans (ht34.mono (Z' := fun j => j = r.rb ∨ j = w2.heap.size) (fun _ _ e => Or.inr e)))).mono (fun j hj e => e.elim id (fun e => absurd hj (by omega))))
               have hk4 := ht34.blk hk3 (by have := HSw.out; omega)
               have hgg : w2.heap.size ≤ g := hg ▸ Nat.le_refl _
               rw [hw4, hg]
               exact HFin.out g w4 ⟨hr4, hk4, hn4', ht4, hgg⟩)
        · intro g w4 hf
          obtain ⟨hr4, hk4, he4, ht4, hgg⟩ := hf
          have hne : H ≠ r.rb := by have := HRb.out; omega
          have hne2 : g ≠ r.rb := by have := HSw.out; omega
          have hne3 : g ≠ H := by have := HSw.out; omega
          have hrd : Blk w4.drew r.rb 59 (ledCells (nn : Int) ((s.run (l.take k)).done q).1 (zC (s.run (l.take k)).2 r.A E.length r.c)) := Blk.drewN hr4 1
          have hkd : Blk w4.drew H 34 #[.int .i64 q.cl, .int .i64 q.tm, .int .i64 q.kd, .int .i64 q.ky, .int .i64 q.vl, .int .i64 q.sg] := hk4.drewN 1
          have hed : Blk w4.drew g 36 #[.int .i64 q.cl, .int .i64 q.tm, .int .i64 q.kd, .int .i64 q.ky, .int .i64 q.vl, .int .i64 q.sg, .int .i64 x] := he4.drewN 1
          have e0 := hkd.cell 0
          have e1 := hkd.cell 1
          have e6 := hed.cell 6
          have hkdt : Blk (w4.setCell ⟨r.rb, 129 + j, none⟩ (.int .i64 q.tm)).drew H 34 #[.int .i64 q.cl, .int .i64 q.tm, .int .i64 q.kd, .int .i64 q.ky, .int .i64 q.vl, .int .i64 q.sg] := (hk4.far (p := ⟨r.rb, 129 + j, none⟩) hne (.int .i64 q.tm)).drewN 1
          have hedt : Blk (w4.setCell ⟨r.rb, 129 + j, none⟩ (.int .i64 q.tm)).drew g 36 #[.int .i64 q.cl, .int .i64 q.tm, .int .i64 q.kd, .int .i64 q.ky, .int .i64 q.vl, .int .i64 q.sg, .int .i64 x] := (he4.far (p := ⟨r.rb, 129 + j, none⟩) hne2 (.int .i64 q.tm)).drewN 1
          have e0t := hkdt.cell 0
          have e1t := hkdt.cell 1
          have e6t := hedt.cell 6
          have hkdr : Blk (w4.setCell ⟨r.rb, 133 + j, none⟩ (.int .i64 x)).drew H 34 #[.int .i64 q.cl, .int .i64 q.tm, .int .i64 q.kd, .int .i64 q.ky, .int .i64 q.vl, .int .i64 q.sg] := (hk4.far (p := ⟨r.rb, 133 + j, none⟩) hne (.int .i64 x)).drewN 1
          have hedr : Blk (w4.setCell ⟨r.rb, 133 + j, none⟩ (.int .i64 x)).drew g 36 #[.int .i64 q.cl, .int .i64 q.tm, .int .i64 q.kd, .int .i64 q.ky, .int .i64 q.vl, .int .i64 q.sg, .int .i64 x] := (he4.far (p := ⟨r.rb, 133 + j, none⟩) hne2 (.int .i64 x)).drewN 1
          have e0r := hkdr.cell 0
          have e1r := hkdr.cell 1
          have e6r := hedr.cell 6
          simp only [List.getElem?_toArray, List.getElem?_cons_zero, List.getElem?_cons_succ] at e0 e1 e6 e0t e1t e6t e0r e1r e6r
          rw [HJ.out] at e0 e0t e0r
          have f1 := fun i => hrd.frozen i
          have CPt : w4.drew.cell? ⟨r.rb, 129 + j, none⟩ = _ := (hrd.cell (129 + j)).trans ((led_rest _ _ _ j).trans (zC_time _ _ _ _ hj4))
          have CPr : w4.drew.cell? ⟨r.rb, 133 + j, none⟩ = _ := (show w4.drew.cell? ⟨r.rb, 133 + j, none⟩ = w4.drew.cell? ⟨r.rb, 129 + (4 + j), none⟩ from by rw [show 133 + j = 129 + (4 + j) by omega]).trans ((hrd.cell (129 + (4 + j))).trans ((led_rest _ _ _ _).trans (zC_res _ _ _ _ hj4)))
          have hbt := hrd.set_ (129 + j) (.int .i64 q.tm)
          have hbr := hrd.set_ (133 + j) (.int .i64 x)
          have f2 : (w4.setCell ⟨r.rb, 129 + j, none⟩ (.int .i64 q.tm)).drew.frozen? ⟨r.rb, 133 + j, none⟩ = false := hbt.frozen _
          have f3 : (w4.setCell ⟨r.rb, 133 + j, none⟩ (.int .i64 x)).drew.frozen? ⟨r.rb, 129 + j, none⟩ = false := hbr.frozen _
          have q2 : (w4.setCell ⟨r.rb, 129 + j, none⟩ (.int .i64 q.tm)).drew.cell? ⟨r.rb, 133 + j, none⟩ = some (.int .i64 (atL (s.run (l.take k)).2 (j : Int)).2) := (hbt.cell (133 + j)).trans (by rw [Array.getElem?_setIfInBounds_ne (by omega)]; exact (hrd.cell (133 + j)).symm.trans CPr)
          have q3 : (w4.setCell ⟨r.rb, 133 + j, none⟩ (.int .i64 x)).drew.cell? ⟨r.rb, 129 + j, none⟩ = some (.int .i64 (atL (s.run (l.take k)).2 (j : Int)).1) := (hbr.cell (129 + j)).trans (by rw [Array.getElem?_setIfInBounds_ne (by omega)]; exact (hrd.cell (129 + j)).symm.trans CPt)
          have hw5 : Blk ((w4.setCell ⟨r.rb, 129 + j, none⟩ (.int .i64 q.tm)).setCell ⟨r.rb, 133 + j, none⟩ (.int .i64 x)).drew r.rb 59 (ledCells (nn : Int) ((s.run (l.take k)).done q).1 (zC ((s.run (l.take k)).done q).2 r.A E.length r.c)) := by
            have := hbt.set_ (133 + j) (.int .i64 x)
            rw [led_set_rest, show 133 + j = 129 + (4 + j) by omega, led_set_rest, zC_put _ _ _ _ hj4 HAt.out, show 129 + (4 + j) = 133 + j by omega] at this
            exact this
          have ht5 : Turn (fun i => i = r.rb) w4 ((w4.setCell ⟨r.rb, 129 + j, none⟩ (.int .i64 q.tm)).setCell ⟨r.rb, 133 + j, none⟩ (.int .i64 x)).drew := (((Turn.refl (fun i => i = r.rb) w4).set_ ⟨r.rb, 129 + j, none⟩ _ rfl).set_ ⟨r.rb, 133 + j, none⟩ _ rfl).drewN 1
          have HT5 := Lib.hid (ht4.trans ht5)
          have HW5 := Lib.hid hw5
          have HE5 := Lib.hid (ht5.blk he4 hne2)
          clear hbt hbr hw5 ht5 hrd hkd hed hr4 hk4 he4 ht4 hkdt hedt hkdr hedr
          go_wp2_with fail
          go_big_region
          obtain ⟨w5, hw5⟩ : ∃ w5, ((w4.setCell ⟨r.rb, 129 + j, none⟩ (.int .i64 q.tm)).setCell ⟨r.rb, 133 + j, none⟩ (.int .i64 x)).drew = w5 := ⟨_, rfl⟩
          rw [hw5] at HW5 HT5 HE5 ⊢
          have hr5 : Rl w5 r ((s.run (l.take k)).done q) E := ⟨by rw [HLen1.out]; exact HW5.out, (HT5.out.has HR2.out.has (fun ad e => (HR2.out.off ad e).1)).tight, HR2.out.nil, HR2.out.le, by rw [HLen1.out]; exact hn4, by have := HOk.out; rwa [HSt1.out] at this,
            fun ad e => ⟨(HR2.out.off ad e).1, Nat.lt_of_lt_of_le (HR2.out.off ad e).2 HT5.out.size⟩⟩
          have HR5 := Lib.hid hr5
          have hbw : Below wr.heap.size wr w2 := HHh.out ▸ HB2.out
          have HTn := Lib.hid ((HS.out.tn.trans (Turn.of_below hbw)).trans HT5.out)
          have hrow := HT5.out.own (below_own HS.out.row hbw (Nat.le_refl _)) (fun i hi e => by have h1 := (HS.out.row.lt i hi).1; have h2 := HLt.out; omega)
          have hb8 : Below w5.heap.size w5 (w5.alloc (.cells #[.int .i64 q.cl, .int .i64 q.tm, .int .i64 q.kd, .int .i64 q.ky, .int .i64 q.vl, .int .i64 q.sg, .int .i64 x] 36)) := (Below.refl _ _).alloc (Nat.le_refl _) _
          have HO := Lib.hid (below_own hrow hb8 (Nat.le_refl _))
          have HNw := Lib.hid (show Has (w5.alloc (.cells #[.int .i64 q.cl, .int .i64 q.tm, .int .i64 q.kd, .int .i64 q.ky, .int .i64 q.vl, .int .i64 q.sg, .int .i64 x] 36)) (w5.heap.size + 1) (some ⟨w5.heap.size, 0, none⟩) (entCells [⟨q, x⟩]) from Has.fresh w5 _ _)
          have HB8 := Lib.hid hb8
          have hml : (s.ran (l.take k)).length ≤ k := Nat.le_trans (Sc.ran_len _ _) (by rw [List.length_take]; exact Nat.min_le_left _ _)
          have HOne := Lib.hid (entCells_one [⟨q, x⟩])
          have HM3 := Lib.hid (show (s.ran (l.take k)).length + 1 ≤ maxLen by unfold maxLen; omega)
          have HM4 := Lib.hid (show ((s.ran (l.take k)).length + 1) * 56 ≤ 140737488355328 by omega)
          have HTs := Lib.hid (show w.heap.size ≤ (w5.alloc (.cells #[.int .i64 q.cl, .int .i64 q.tm, .int .i64 q.kd, .int .i64 q.ky, .int .i64 q.vl, .int .i64 q.sg, .int .i64 x] 36)).heap.size from Nat.le_trans HTn.out.size hb8.size)
          have c0 := HE5.out.cell 0
          have c1' := HE5.out.cell 1
          have c2 := HE5.out.cell 2
          have c3 := HE5.out.cell 3
          have c4 := HE5.out.cell 4
          have c5 := HE5.out.cell 5
          have c6 := HE5.out.cell 6
          simp only [List.getElem?_toArray, List.getElem?_cons_zero, List.getElem?_cons_succ] at c0 c1' c2 c3 c4 c5 c6
          clear hw5 hr5 hbw hrow hb8 hml e0 e1 e6 e0t e1t e6t e0r e1r e6r f1 f2 f3 q2 q3 CPt CPr HW5 HE5
          obtain ⟨i0, hi0, hx0, hx1, hx2⟩ := info_parts info_ent
          go_wp2_with (at_builtin; refine wpList_apps rfl _ _ 29 rfl w.heap.size 36 i0 _ 7 56 Try.underlying29 hi0 hx0 hx1 hx2 rfl (by decide) _ _ _ rfl HO.out _ (some ⟨w5.heap.size, 0, none⟩) 1 1 (entCells [⟨q, x⟩]) rfl rfl HNw.out (fun h => nomatch h) HOne.out HM3.out HM4.out HTs.out ?_)
          intro v2 w9 ho9 hg9 hl9
          have HS9 := Lib.hid (show RRun w r s E l (k + 1) v2 w9 from by
            have e1 := Sc.run_take hkl s
            have e2 := Sc.ran_take hkl s
            rw [HQ.out, HSt1.out] at e1
            rw [HQ.out, HEn1.out] at e2
            refine ⟨?_, ?_, Turn.grown (HTn.out.trans (Turn.of_below HB8.out)) hg9 (fun i hi hlt => ?_)⟩
            · rw [e1]
              refine (HR5.out.below HB8.out).kept (Z := fun i => (Value.slice A1 (s.ran (l.take k)).length c1).ownBlock = some i) (Turn.grown (Turn.refl _ _) hg9 (fun i hi _ => hi)) (fun i hi hq => ?_)
              have h1 := (HO.out.lt i hq).1
              rcases hi with rfl | ⟨ad, e, rfl⟩
              · have := HLt.out; omega
              · have := HLr.out ad e; omega
            · rw [e2, List.length_append, entCells_app]
              exact ho9
            · have h1 := (HS.out.row.lt i hi).1
              omega)
          clear ho9 hg9 hl9
          go_wp2_with fail
          go_roundw
          case rel => exact ⟨k + 1, by go_num, by omega, HS9⟩
          case measure => simp [intOf]; omega
      · have hin : (s.run (l.take k)).is q = false := by simpa using hin
        have HS2 := Lib.hid (fun m => HS.out.next_no (w2 := w1.drewN m) hkl (by rw [HQ.out]; exact hin) (HHh.out ▸ below_drewN HB1.out m))
        have hfa := Sc.is_false hin
        rw [hnn] at hfa
        clear hin hnn
        by_cases a0 : 0 ≤ q.cl
        · obtain ⟨j, hj⟩ := Int.eq_ofNat_of_zero_le a0
          rw [hj] at hfa t0
          have g1 : decide ((j : Int) < 0) = false := decide_eq_false (by omega)
          by_cases a1 : j < nn
          · have hj4 : j < 4 := by omega
            have m1 : w1.cell? ⟨r.rb, 129 + j, none⟩ = _ := HR1.out.time 0 hj4
            obtain ⟨t, ht⟩ : ∃ t, (atL (s.run (l.take k)).2 (j : Int)).1 = t := ⟨_, rfl⟩
            rw [ht] at m1 hfa
            have g2 : decide ((j : Int) ≥ (nn : Int)) = false := decide_eq_false (by omega)
            have g3 : decide (q.tm ≤ t) = true := decide_eq_true (by omega)
            clear ht hj
            go_wp2_with fail
            have gq : decide (nn ≤ j) = false := decide_eq_false (by omega)
            go_big_quiet (fail)
            go_wp2_with fail
            go_roundw
            case rel => exact ⟨k + 1, by go_num, by omega, HS2.out _ |> Lib.hid⟩
            case measure => simp [intOf]; omega
          · have g2 : decide ((j : Int) ≥ (nn : Int)) = true := decide_eq_true (by omega)
            clear hj
            go_wp2_with fail
            have gq : decide (nn ≤ j) = true := decide_eq_true (by omega)
            go_big_quiet (fail)
            go_wp2_with fail
            go_roundw
            case rel => exact ⟨k + 1, by go_num, by omega, HS2.out _ |> Lib.hid⟩
            case measure => simp [intOf]; omega
        · have g1 : decide (q.cl < 0) = true := decide_eq_true (by omega)
          go_wp2_with fail
          go_big_quiet (fail)
          go_wp2_with fail
          go_roundw
          case rel => exact ⟨k + 1, by go_num, by omega, HS2.out _ |> Lib.hid⟩
          case measure => simp [intOf]; omega
    · obtain rfl : k = n := by omega
      have he1 : l.take k = l := List.take_of_length_le (by rw [HL.out]; exact Nat.le_refl _)
      have hrl := HS.out.rl
      have hrow := HS.out.row
      rw [he1] at hrl hrow ⊢
      have c137 : wr.cell? ⟨r.rb, 137, none⟩ = some (.slice r.A E.length r.c) := hrl.log 0
      have HRl := Lib.hid hrl
      have HRow := Lib.hid hrow
      have HT := Lib.hid HS.out.tn
      have hml : (s.ran l).length ≤ k := HL.out ▸ Sc.ran_len l s
      have HM1 := Lib.hid (show 0 + E.length ≤ maxLen by have := HE.out; unfold maxLen; omega)
      have HM2 := Lib.hid (show (0 + E.length) * 56 ≤ 140737488355328 by have := HE.out; omega)
      have HM3 := Lib.hid (show E.length + (s.ran l).length ≤ maxLen by have := HE.out; unfold maxLen; omega)
      have HM4 := Lib.hid (show (E.length + (s.ran l).length) * 56 ≤ 140737488355328 by have := HE.out; omega)
      have HLe := Lib.hid (entCells_len E)
      have HLr2 := Lib.hid (entCells_len (s.ran l))
      have HO1 := Lib.hid (entCells_one E)
      have HO2 := Lib.hid (entCells_one (s.ran l))
      clear HS HS0 hrl hrow he1 hml
      obtain ⟨i0, hi0, hx0, hx1, hx2⟩ := info_parts info_ent
      go_wp2_with (at_builtin; refine wpList_apps rfl _ _ 29 rfl wr.heap.size 36 i0 _ 7 56 Try.underlying29 hi0 hx0 hx1 hx2 rfl (by decide) _ 0 [] rfl (World.ownsRow_nil _ _ _ _) _ r.A E.length r.c (entCells E) rfl HLe.out HRl.out.has HRl.out.nil HO1.out HM1.out HM2.out (Nat.le_refl _) ?_)
      intro v5 w5 ho5 hg5 hl5
      have hb5 : Below wr.heap.size wr w5 := (Below.refl _ _).grown hg5 (Nat.le_refl _) (fun i hi => by cases hi)
      have HO5 := Lib.hid ho5
      have HB5 := Lib.hid hb5
      have HNw := Lib.hid ((has_rows HRow.out).below hb5 (Nat.le_refl _))
      have HNil := Lib.hid (own_nil HRow.out)
      clear ho5 hg5 hl5 hb5
      go_wp2_with (at_builtin; refine wpList_apps rfl _ _ 29 rfl wr.heap.size 36 i0 _ 7 56 Try.underlying29 hi0 hx0 hx1 hx2 rfl (by decide) _ _ _ rfl HO5.out _ A1 (s.ran l).length c1 (entCells (s.ran l)) rfl HLr2.out HNw.out HNil.out HO2.out HM3.out HM4.out HB5.out.size ?_)
      intro v6 w6 ho6 hg6 hl6
      obtain ⟨A6, c6, rfl, hle6, -⟩ := own_slice ho6
      have hb6 : Below wr.heap.size wr w6 := HB5.out.grown hg6 HB5.out.size (fun i hi => (HO5.out.lt i hi).1)
      have hr6 := HRl.out.below hb6
      have hblk := hr6.blk
      have d137 : w6.cell? ⟨r.rb, 137, none⟩ = some (.slice r.A E.length r.c) := hr6.log 0
      have f137 := hblk.frozen 137
      have HBk := Lib.hid hblk
      have HO6 := Lib.hid ho6
      have HB6 := Lib.hid hb6
      have HLe6 := Lib.hid hle6
      have HR6 := Lib.hid hr6
      clear ho6 hg6 hl6 hb6 hr6 hblk hle6
      go_wp2_with fail
      go_ret
      have hT6 : Turn (fun i => i = r.rb) w6 (w6.setCell ⟨r.rb, 137, none⟩ (.slice A6 (E.length + (s.ran l).length) c6)) := (Turn.refl (fun i => i = r.rb) w6).set_ _ _ rfl
      have hB7 := HBk.out.set_ (129 + 8) (.slice A6 (E.length + (s.ran l).length) c6)
      rw [led_set_rest, zC_set_log] at hB7
      have hrb : r.rb < wr.heap.size := HRl.out.blk.lt
      have hA6 := own_at HO6.out
      have hTw := (HT.out.trans (Turn.of_below HB6.out)).trans hT6
      have hra := own_at HRow.out
      have hown : (w6.setCell ⟨r.rb, 137, none⟩ (.slice A6 (E.length + (s.ran l).length) c6)).ownsRow w.heap.size 36 7 (.slice A1 (s.ran l).length c1) (s.ran l).length (entCells (s.ran l)) :=
        hT6.own (below_own HRow.out HB6.out (Nat.le_refl _)) (fun i hi e => by have h1 := (HRow.out.lt i hi).1; have h2 := HLt.out; omega)
      refine ⟨_, A6, c6, rfl, ⟨?_, ?_, own_nil HO6.out, ?_, HR6.out.n4, HR6.out.ok, fun ad e => ⟨by have := (hA6 ad e).1; show ad.block ≠ r.rb; omega, Nat.lt_of_lt_of_le (hA6 ad e).2 hT6.size⟩⟩, hown, fun ad e => ?_, fun ad i e hi he => ?_, hTw⟩
      · rw [List.length_append]; exact hB7
      · rw [entCells_app]
        exact (hT6.has (has_rows HO6.out) (fun ad e hz => by have := (hA6 ad e).1; have hz : ad.block = r.rb := hz; omega)).tight
      · rw [List.length_append]; exact HLe6.out
      · have := (hA6 ad e).1; have := HT.out.size; omega
      · have h1 := (HRow.out.lt i hi).2
        have h2 := (hA6 ad e).1
        omega
end Go.Proofs.Ytpjcedilkahpiaa
