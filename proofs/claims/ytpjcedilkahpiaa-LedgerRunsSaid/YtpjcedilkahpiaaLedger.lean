/- Package ledger: the ledger in its blocks; New, Len, Last, Reply, isNew, execute. -/
import Derived.Test.YtpjcedilkahpiaaLedMath
import Derived.Test.YtpjcedilkahpiaaStoreApply
import Derived.Test.YtpjcedilkahpiaaStoreSame
import Derived.Deep.DeepCutAuto
import Derived.Deep.RegionHeld3
namespace Go.Proofs.Ytpjcedilkahpiaa
open Go.RowKit Go.Maps
set_option linter.unusedSimpArgs false

/-- Where a ledger lies: its block, the store's, its map's, the cache's, its row's, the log. -/
structure Lb where
  lb : Nat
  sb : Nat
  bm : Nat
  N : Nat
  cb : Nat
  g : Nat
  c : Nat
  v : Value
def Lb.zone (b : Lb) (k : Nat) : Prop := k = b.lb ∨ k = b.sb ∨ k = b.bm ∨ k = b.cb ∨ k = b.g ∨ b.v.ownBlock = some k
/-- The ledger tells: what it holds, and its entries. -/
structure Lg (w : World) (b : Lb) (s : Sc) (E : List En) : Prop where
  blk : Blk w b.lb 71 #[.int .i64 s.2.length, b.v, .pointer (some ⟨b.sb, 0, none⟩), .pointer (some ⟨b.cb, 0, none⟩)]
  log : w.ownsRow 0 36 7 b.v E.length (entCells E)
  st : St w b.sb b.bm b.N s.1
  ch : Ch w b.cb b.g b.c s.2
  few : E.length ≤ b.N
section
variable {w w' : World} {b : Lb} {s : Sc} {E : List En}
theorem Lg.kept {Z : Nat → Prop} (h : Lg w b s E) (ht : Turn Z w w') (hz : ∀ k, b.zone k → ¬ Z k) : Lg w' b s E :=
  ⟨ht.blk h.blk (hz _ (Or.inl rfl)), ht.own h.log (fun k hk => hz k (Or.inr (Or.inr (Or.inr (Or.inr (Or.inr hk)))))), h.st.kept ht (hz _ (Or.inr (Or.inl rfl))) (hz _ (Or.inr (Or.inr (Or.inl rfl)))),
    h.ch.kept ht (hz _ (Or.inr (Or.inr (Or.inr (Or.inl rfl))))) (hz _ (Or.inr (Or.inr (Or.inr (Or.inr (Or.inl rfl)))))), h.few⟩
theorem Lg.drewN (h : Lg w b s E) (n : Nat) : Lg (w.drewN n) b s E := h.kept ((Turn.refl (fun _ => False) w).drewN n) (fun _ _ => id)
theorem Lg.below (h : Lg w b s E) (ht : Below w.heap.size w w') : Lg w' b s E := h.kept (Turn.of_below (Z := fun _ => False) ht) (fun _ _ => id)
theorem Lg.lt (h : Lg w b s E) {k : Nat} (hk : b.zone k) : k < w.heap.size := by
  rcases hk with rfl | rfl | rfl | rfl | rfl | hk
  · exact h.blk.lt
  · exact h.st.lt.1
  · exact h.st.lt.2
  · exact h.ch.lt.1
  · exact h.ch.lt.2
  · exact (h.log.lt k hk).2
theorem Lg.cells (h : Lg w b s E) (n : Nat) : (w.drewN n).cell? ⟨b.lb, 0, none⟩ = some (.int .i64 s.2.length) ∧ (w.drewN n).cell? ⟨b.lb, 1, none⟩ = some b.v ∧ (w.drewN n).cell? ⟨b.lb, 2, none⟩ = some (.pointer (some ⟨b.sb, 0, none⟩)) ∧ (w.drewN n).cell? ⟨b.lb, 3, none⟩ = some (.pointer (some ⟨b.cb, 0, none⟩)) :=
  ⟨(h.drewN n).blk.cell 0, (h.drewN n).blk.cell 1, (h.drewN n).blk.cell 2, (h.drewN n).blk.cell 3⟩
/-- No block of the ledger is one of another of its parts. -/
theorem Lg.ne (h : Lg w b s E) : b.lb ≠ b.sb ∧ b.lb ≠ b.bm ∧ b.lb ≠ b.cb ∧ b.lb ≠ b.g ∧ b.sb ≠ b.cb ∧ b.sb ≠ b.g ∧ b.bm ≠ b.cb ∧ b.bm ≠ b.g ∧ b.v.ownBlock ≠ some b.lb ∧ b.v.ownBlock ≠ some b.sb ∧ b.v.ownBlock ≠ some b.bm ∧ b.v.ownBlock ≠ some b.cb ∧ b.v.ownBlock ≠ some b.g := by
  have hm : ∀ (k : Nat) (t : TypeId) (cs : Array Value), Blk w k t cs → k ≠ b.bm := fun k t cs hk e => by
    obtain ⟨D, ⟨es, clock, hb, _⟩, _⟩ := h.st.map
    unfold Blk at hk
    rw [e, hb] at hk
    cases hk
  have hg : ∃ cs, Blk w b.g 89 cs := by
    rcases h.ch.row.2 with ⟨e, _⟩ | ⟨g', cap, cur, e, _, hh, _⟩
    · injection e with e1; cases e1
    · injection e with e1
      injection e1 with e1
      injection e1 with e1
      exact ⟨_, e1 ▸ hh⟩
  obtain ⟨cs, hg⟩ := hg
  refine ⟨h.blk.ne_ h.st.blk (by decide), hm _ _ _ h.blk, h.blk.ne_ h.ch.blk (by decide), h.blk.ne_ hg (by decide), h.st.blk.ne_ h.ch.blk (by decide), h.st.blk.ne_ hg (by decide), (hm _ _ _ h.ch.blk).symm, (hm _ _ _ hg).symm,
    own_blk_ne h.log h.blk (by decide), own_blk_ne h.log h.st.blk (by decide), fun e => ?_, own_blk_ne h.log h.ch.blk (by decide), own_blk_ne h.log hg (by decide)⟩
  rcases h.log.2 with ⟨e1, _⟩ | ⟨g', cap, cur, e1, _, hh, _⟩
  · rw [e1] at e; cases e
  · rw [e1] at e
    have e2 : g' = b.bm := by simpa [Value.ownBlock] using e
    exact hm _ _ _ hh e2
end
set_option maxRecDepth 100000 in
set_option maxHeartbeats 1000000 in
theorem lnew_any {n : Nat} (h1 : 1 ≤ n) (h4 : n ≤ 4) (w : World) : Calls Try.prog 18 #[.int .i64 (n : Int)] w fun e w' => ∃ b : Lb, e = .returned (.tuple #[.pointer (some ⟨b.lb, 0, none⟩), .int .i64 0]) ∧ Lg w' b (Sc.new n) [] ∧ b.N = 0 ∧ (∀ k, b.zone k → w.heap.size ≤ k) ∧ Below w.heap.size w w' := by
  have HC := Lib.hid (cnew_any h1 h4 w)
  clear h1 h4
  go_enter Try.func18, Try.ntmps18
  go_wp2_with fail
  refine HC.out.mono ?_
  rintro e w1 ⟨cb, g, c, rfl, hC, q1, q2, hb⟩
  have HC1 := Lib.hid hC
  have HQ := Lib.hid (And.intro q1 q2)
  have HB := Lib.hid hb
  clear hC q1 q2 hb HC
  go_wp2_with fail
  refine (snew_any w1).mono ?_
  rintro e w2 ⟨sb, bm, rfl, hS, q3, q4, hb2⟩
  have HS := Lib.hid hS
  have HQ2 := Lib.hid (And.intro q3 q4)
  have HC2 := Lib.hid (HC1.out.below hb2)
  have HB2 := Lib.hid (HB.out.trans (hb2.mono HB.out.size))
  have HZ := Lib.hid hb2.size
  clear hS q3 q4 hb2
  go_wp2_with fail
  go_ret2
  have hb3 : Below w2.heap.size w2 (w2.alloc (.cells #[.int .i64 (n : Int), .slice none 0 0, .pointer (some ⟨sb, 0, none⟩), .pointer (some ⟨cb, 0, none⟩)] 71)) := (Below.refl _ _).alloc (Nat.le_refl _) _
  have s1 := HB.out.size
  have s2 := HZ.out
  have s3 := HQ.out
  have s4 := HQ2.out
  refine ⟨⟨w2.heap.size, sb, bm, 0, cb, g, c, .slice none 0 0⟩, rfl, ⟨?_, World.ownsRow_nil _ _ _ _, HS.out.below hb3, HC2.out.below hb3, Nat.le_refl _⟩, rfl, fun k hk => ?_, HB2.out.trans (hb3.mono HB2.out.size)⟩
  · have := Blk.new w2 71 #[.int .i64 (n : Int), .slice none 0 0, .pointer (some ⟨sb, 0, none⟩), .pointer (some ⟨cb, 0, none⟩)]
    show Blk _ _ _ #[.int .i64 ((List.replicate n ((0 : Int), (0 : Int))).length : Nat), _, _, _]
    rw [List.length_replicate]
    exact this
  · rcases hk with e | e | e | e | e | hk
    · have e : k = w2.heap.size := e; omega
    · have e : k = sb := e; omega
    · have e : k = bm := e; omega
    · have e : k = cb := e; omega
    · have e : k = g := e; omega
    · cases hk
set_option maxRecDepth 100000 in
theorem lnew_out {n : Int} (h : ¬ (1 ≤ n ∧ n ≤ 4)) (w : World) : Calls Try.prog 18 #[.int .i64 n] w fun e w' => e = .returned (.tuple #[.pointer none, .int .i64 1]) ∧ w = w' := by
  have HC := Lib.hid (cnew_out h w)
  clear h
  go_enter Try.func18, Try.ntmps18
  go_wp2_with fail
  refine HC.out.mono ?_
  rintro e w1 ⟨rfl, rfl⟩
  go_wp2_with fail
  go_ret2
  exact ⟨rfl, rfl⟩
section
variable {w : World} {b : Lb} {s : Sc} {E : List En}
theorem llen_any (h : Lg w b s E) : Calls Try.prog 44 #[.pointer (some ⟨b.lb, 0, none⟩)] w fun e w' => e = .returned (.int .i64 E.length) ∧ w = w' := by
  obtain ⟨A, c, hv, _, _⟩ := own_slice h.log
  have h1 := (h.cells 0).2.1
  have h1 : w.cell? ⟨b.lb, 1, none⟩ = some b.v := h1
  rw [hv] at h1
  clear h hv
  go_enter Try.func44, Try.ntmps44
  go_wp2
  go_ret
  exact ⟨rfl, rfl⟩
set_option maxRecDepth 100000 in
theorem llast_any (h : Lg w b s E) (k : Int) : Calls Try.prog 17 #[.pointer (some ⟨b.lb, 0, none⟩), .int .i64 k] w fun e w' => e = .returned (.int .i64 (atL s.2 k).1) ∧ w = w' := by
  have HC := Lib.hid (clast_any h.ch k)
  have h1 := (h.cells 0).2.2.2
  have h1 : w.cell? ⟨b.lb, 3, none⟩ = some (.pointer (some ⟨b.cb, 0, none⟩)) := h1
  clear h
  go_enter Try.func17, Try.ntmps17
  go_wp2_with fail
  refine HC.out.mono ?_
  rintro e w1 ⟨rfl, rfl⟩
  go_wp2_with fail
  go_ret
  exact ⟨rfl, rfl⟩
set_option maxRecDepth 100000 in
theorem lreply_any (h : Lg w b s E) (k t : Int) : Calls Try.prog 16 #[.pointer (some ⟨b.lb, 0, none⟩), .int .i64 k, .int .i64 t] w fun e w' => e = .returned (.tuple #[.int .i64 (getS s.2 k t).1, .bool (getS s.2 k t).2]) ∧ w = w' := by
  have HC := Lib.hid (cget_any h.ch k t)
  have h1 := (h.cells 0).2.2.2
  have h1 : w.cell? ⟨b.lb, 3, none⟩ = some (.pointer (some ⟨b.cb, 0, none⟩)) := h1
  clear h
  go_enter Try.func16, Try.ntmps16
  go_wp2_with fail
  refine HC.out.mono ?_
  rintro e w1 ⟨rfl, rfl⟩
  go_wp2_with fail
  go_ret2
  exact ⟨rfl, rfl⟩
set_option maxRecDepth 100000 in
set_option maxHeartbeats 2000000 in
theorem lis_any (h : Lg w b s E) (r : Rq) : Calls Try.prog 38 #[.pointer (some ⟨b.lb, 0, none⟩), .agg #[.int .i64 r.cl, .int .i64 r.tm, .int .i64 r.kd, .int .i64 r.ky, .int .i64 r.vl, .int .i64 r.sg]] w fun e w' => e = .returned (.bool (s.is r)) ∧ Below w.heap.size w w' := by
  have hb := (Below.refl w.heap.size w).alloc (Nat.le_refl _) (.cells #[.int .i64 r.cl, .int .i64 r.tm, .int .i64 r.kd, .int .i64 r.ky, .int .i64 r.vl, .int .i64 r.sg] 34)
  have hk := Blk.new w 34 #[.int .i64 r.cl, .int .i64 r.tm, .int .i64 r.kd, .int .i64 r.ky, .int .i64 r.vl, .int .i64 r.sg]
  have hl := h.below hb
  obtain ⟨x, hx⟩ : ∃ x, (atL s.2 r.cl).1 = x := ⟨_, rfl⟩
  obtain ⟨n, hn⟩ : ∃ n, s.2.length = n := ⟨_, rfl⟩
  have hI : s.is r = decide ((0 ≤ r.cl ∧ r.cl < (n : Int)) ∧ x < r.tm) := by rw [← hx, ← hn]; rfl
  have hC := fun m => (llast_any (hl.drewN m) r.cl).mono (R' := fun e w' => e = .returned (.int .i64 x) ∧ w' = _) (fun e w' he => ⟨by rw [← hx]; exact he.1, he.2.symm⟩)
  have h0 := fun m => (hl.cells m).1
  rw [hn] at h0
  rw [hI]
  obtain ⟨H, hH⟩ : ∃ H, w.heap.size = H := ⟨_, rfl⟩
  obtain ⟨w1, hw1⟩ : ∃ w1, w.alloc (.cells #[.int .i64 r.cl, .int .i64 r.tm, .int .i64 r.kd, .int .i64 r.ky, .int .i64 r.vl, .int .i64 r.sg] 34) = w1 := ⟨_, rfl⟩
  rw [hw1] at hk hl hb hC h0
  rw [hH] at hk hb ⊢
  have c0 := fun m => (show (w1.drewN m).cell? ⟨H, 0, none⟩ = some (.int .i64 r.cl) from (hk.drewN m).cell 0)
  have c1 := fun m => (show (w1.drewN m).cell? ⟨H, 1, none⟩ = some (.int .i64 r.tm) from (hk.drewN m).cell 1)
  have HC := Lib.hid hC
  have HB := Lib.hid hb
  have HW := Lib.hid hw1
  have HHh := Lib.hid hH
  clear h hk hl hC hb hw1 hH hx hn hI
  by_cases a0 : 0 ≤ r.cl
  · have g0 : decide (r.cl ≥ 0) = true := decide_eq_true a0
    by_cases a1 : r.cl < (n : Int)
    · have g1 : decide (r.cl < (n : Int)) = true := decide_eq_true a1
      by_cases a2 : x < r.tm
      · have g2 : decide (r.tm > x) = true := decide_eq_true a2
        go_enter Try.func38, Try.ntmps38
        go_upto_region 1 with fail
        rw [HW.out, HHh.out]
        go_quiet ((go_at_call 17; exact Calls.quiet_of_same (HC.out _)))
        go_wp2_with fail
        go_ret
        exact ⟨by first | rfl | (rw [decide_eq_true ⟨⟨a0, a1⟩, a2⟩]; rfl), below_drewN HB.out _⟩
      · have g2 : decide (r.tm > x) = false := decide_eq_false a2
        go_enter Try.func38, Try.ntmps38
        go_upto_region 1 with fail
        rw [HW.out, HHh.out]
        go_quiet ((go_at_call 17; exact Calls.quiet_of_same (HC.out _)))
        go_wp2_with fail
        go_ret
        exact ⟨by first | rfl | (rw [decide_eq_false (by omega)]; rfl), below_drewN HB.out _⟩
    · have g1 : decide (r.cl < (n : Int)) = false := decide_eq_false a1
      go_enter Try.func38, Try.ntmps38
      go_upto_region 1 with fail
      rw [HW.out, HHh.out]
      go_quiet (fail)
      go_wp2_with fail
      go_ret
      exact ⟨by first | rfl | (rw [decide_eq_false (by omega)]; rfl), below_drewN HB.out _⟩
  · have g0 : decide (r.cl ≥ 0) = false := decide_eq_false a0
    go_enter Try.func38, Try.ntmps38
    go_upto_region 1 with fail
    rw [HW.out, HHh.out]
    go_quiet (fail)
    go_wp2_with fail
    go_ret
    exact ⟨by first | rfl | (rw [decide_eq_false (by omega)]; rfl), below_drewN HB.out _⟩
set_option maxRecDepth 100000 in
set_option maxHeartbeats 4000000 in
theorem lexec_any (h : Lg w b s E) (hN : b.N ≤ 1000000) (r : Rq) : Calls Try.prog 39 #[.pointer (some ⟨b.lb, 0, none⟩), .agg #[.int .i64 r.cl, .int .i64 r.tm, .int .i64 r.kd, .int .i64 r.ky, .int .i64 r.vl, .int .i64 r.sg]] w fun e w' =>
    e = .returned (.agg #[.int .i64 r.cl, .int .i64 r.tm, .int .i64 r.kd, .int .i64 r.ky, .int .i64 r.vl, .int .i64 r.sg, .int .i64 (s.res r)]) ∧ Lg w' { b with N := b.N + 1 } (s.done r) E ∧ Turn (fun k => k = b.bm ∨ k = b.g) w w' := by
  obtain ⟨e0, e1⟩ : ∃ a1, w.alloc (.cells #[.int .i64 r.cl, .int .i64 r.tm, .int .i64 r.kd, .int .i64 r.ky, .int .i64 r.vl, .int .i64 r.sg] 34) = a1 := ⟨_, rfl⟩
  have hs0 : e0.heap.size = w.heap.size + 1 := by rw [← e1]; simp
  have hb0 : Below w.heap.size w e0 := e1 ▸ (Below.refl w.heap.size w).alloc (Nat.le_refl _) _
  have hk0 : Blk e0 w.heap.size 34 #[.int .i64 r.cl, .int .i64 r.tm, .int .i64 r.kd, .int .i64 r.ky, .int .i64 r.vl, .int .i64 r.sg] := e1 ▸ Blk.new w _ _
  obtain ⟨w1, e2⟩ : ∃ a1, e0.alloc (.cells #[.int .i64 0, .int .i64 0, .int .i64 0, .int .i64 0, .int .i64 0, .int .i64 0, .int .i64 0] 36) = a1 := ⟨_, rfl⟩
  have hb1 : Below e0.heap.size e0 w1 := e2 ▸ (Below.refl _ _).alloc (Nat.le_refl _) _
  have hk1 : Blk w1 w.heap.size 34 #[.int .i64 r.cl, .int .i64 r.tm, .int .i64 r.kd, .int .i64 r.ky, .int .i64 r.vl, .int .i64 r.sg] := Blk.below hk0 hb1 hk0.lt
  have hk2 : Blk w1 (w.heap.size + 1) 36 #[.int .i64 0, .int .i64 0, .int .i64 0, .int .i64 0, .int .i64 0, .int .i64 0, .int .i64 0] := by rw [← hs0, ← e2]; exact Blk.new e0 _ _
  have hb2 : Below w.heap.size w w1 := hb0.trans (hb1.mono (by omega))
  have hl := h.below hb2
  have hlt : b.lb < w.heap.size ∧ b.bm < w.heap.size ∧ b.g < w.heap.size ∧ b.sb < w.heap.size := ⟨h.lt (Or.inl rfl), h.lt (Or.inr (Or.inr (Or.inl rfl))), h.lt (Or.inr (Or.inr (Or.inr (Or.inr (Or.inl rfl))))), h.lt (Or.inr (Or.inl rfl))⟩
  have hne := h.ne
  have hc2 := fun m => (hl.cells m).2.2.1
  have hc3 := (hl.cells 0).2.2.2
  have HA := Lib.hid (sapply_any (hl.drewN 1).st (show b.N < maxLen by unfold maxLen; omega) r.kd r.ky r.vl)
  have HL := Lib.hid hl
  have HLt := Lib.hid hlt
  have HNe := Lib.hid hne
  have HB := Lib.hid hb2
  have hsz : w1.heap.size = w.heap.size + 2 := by rw [← e2]; simp [hs0]
  obtain ⟨H, hH⟩ : ∃ H, w.heap.size = H := ⟨_, rfl⟩
  rw [hH] at hk1 hk2 HLt HB hsz
  have HK1 := Lib.hid hk1
  have HK2 := Lib.hid hk2
  have HE1 := Lib.hid e1
  have HE2 := Lib.hid e2
  have HHh := Lib.hid hH
  have HSz := Lib.hid hsz
  obtain ⟨x, hx⟩ : ∃ x, s.res r = x := ⟨_, rfl⟩
  have hst : storeS s.1 r.kd r.ky r.vl = (x, (s.done r).1) := by rw [← hx]; rfl
  rw [hst] at HA
  rw [hx]
  have HX := Lib.hid hx
  have HF := Lib.hid h.few
  have HZn := Lib.hid (fun k (hk : b.zone k) => h.lt hk)
  have c2 : w1.drew.cell? ⟨H, 2, none⟩ = some (.int .i64 r.kd) := (hk1.drewN 1).cell 2
  have c3 : w1.drew.cell? ⟨H, 3, none⟩ = some (.int .i64 r.ky) := (hk1.drewN 1).cell 3
  have c4 : w1.drew.cell? ⟨H, 4, none⟩ = some (.int .i64 r.vl) := (hk1.drewN 1).cell 4
  have cs : w1.drew.cell? ⟨b.lb, 2, none⟩ = some (.pointer (some ⟨b.sb, 0, none⟩)) := hc2 1
  clear h hl hlt hne hb0 hb1 hb2 hk0 hk1 hk2 e1 e2 hs0 hH hsz hx hc2 hc3 hst
  go_enter Try.func39, Try.ntmps39
  go_upto_region 1 with fail
  rw [HE1.out, HE2.out, HHh.out]
  have hq1 : w1.drew.cell? ⟨H, 2, none⟩ = some (.int .i64 r.kd) ∧ w1.drew.cell? ⟨H, 3, none⟩ = some (.int .i64 r.ky) ∧ w1.drew.cell? ⟨H, 4, none⟩ = some (.int .i64 r.vl) ∧ w1.drew.cell? ⟨b.lb, 2, none⟩ = some (.pointer (some ⟨b.sb, 0, none⟩)) := ⟨c2, c3, c4, cs⟩
  clear c2 c3 c4 cs
  go_region_held3 (fun w' => w'.cell? ⟨H, 2, none⟩ = some (.int .i64 r.kd) ∧ w'.cell? ⟨H, 3, none⟩ = some (.int .i64 r.ky) ∧ w'.cell? ⟨H, 4, none⟩ = some (.int .i64 r.vl) ∧ w'.cell? ⟨b.lb, 2, none⟩ = some (.pointer (some ⟨b.sb, 0, none⟩))) (first | exact hq1 | exact hq2 | go_keep) ((go_at_call 32; refine HA.out.mono ?_; rintro e w2 ⟨rfl, hS2, ht2⟩; have hk2 := ht2.blk (HK1.out.drewN 1) (by have := HLt.out; omega); have hl2 := ht2.blk (HL.out.drewN 1).blk HNe.out.2.1; have hq2 : w2.cell? ⟨H, 2, none⟩ = some (.int .i64 r.kd) ∧ w2.cell? ⟨H, 3, none⟩ = some (.int .i64 r.ky) ∧ w2.cell? ⟨H, 4, none⟩ = some (.int .i64 r.vl) ∧ w2.cell? ⟨b.lb, 2, none⟩ = some (.pointer (some ⟨b.sb, 0, none⟩)) := ⟨hk2.cell 2, hk2.cell 3, hk2.cell 4, hl2.cell 2⟩))
  have HK12 := Lib.hid hk2
  have HL2 := Lib.hid hl2
  have hc2 : Ch w2 b.cb b.g b.c s.2 := (HL.out.drewN 1).ch.kept ht2 HNe.out.2.2.2.2.2.2.1.symm HNe.out.2.2.2.2.2.2.2.1.symm
  have hrow2 := ht2.own (HL.out.drewN 1).log (fun k hk e => HNe.out.2.2.2.2.2.2.2.2.2.2.1 (e ▸ hk))
  have HR2 := Lib.hid (show w2.ownsRow 0 36 7 b.v E.length (entCells E) from hrow2)
  have HK22 := Lib.hid (show Blk w2 (H + 1) 36 #[.int .i64 0, .int .i64 0, .int .i64 0, .int .i64 0, .int .i64 0, .int .i64 0, .int .i64 0] from ht2.blk (HK2.out.drewN 1) (by have := HLt.out; omega))
  have HT2 := Lib.hid (show Turn (fun k => k = b.bm ∨ k = b.g) w1 w2 from ((Turn.refl _ w1).drewN 1).trans (ht2.mono (fun _ _ e => Or.inl e)))
  have HS2 := Lib.hid hS2
  have HP := Lib.hid (cput_any (hc2.drewN 1) r.cl r.tm x)
  have hq1 : w2.drew.cell? ⟨H, 0, none⟩ = some (.int .i64 r.cl) ∧ w2.drew.cell? ⟨H, 1, none⟩ = some (.int .i64 r.tm) ∧ w2.drew.cell? ⟨b.lb, 3, none⟩ = some (.pointer (some ⟨b.cb, 0, none⟩)) := ⟨hk2.cell 0, hk2.cell 1, hl2.cell 3⟩
  clear HA HL hk2 hl2 hc2 hrow2 ht2 hS2 hq2 HK1 HK2
  go_wp2_with fail
  go_region_held3 (fun w' => w'.cell? ⟨H, 0, none⟩ = some (.int .i64 r.cl) ∧ w'.cell? ⟨H, 1, none⟩ = some (.int .i64 r.tm) ∧ w'.cell? ⟨b.lb, 3, none⟩ = some (.pointer (some ⟨b.cb, 0, none⟩))) (first | exact hq1 | exact hq2 | go_keep) ((go_at_call 55; refine HP.out.mono ?_; rintro e w3 ⟨rfl, hC3, ht3⟩; have hk3 := ht3.blk (HK12.out.drewN 1) (by have := HLt.out; omega); have hl3 := ht3.blk (HL2.out.drewN 1) HNe.out.2.2.2.1; have hq2 : w3.cell? ⟨H, 0, none⟩ = some (.int .i64 r.cl) ∧ w3.cell? ⟨H, 1, none⟩ = some (.int .i64 r.tm) ∧ w3.cell? ⟨b.lb, 3, none⟩ = some (.pointer (some ⟨b.cb, 0, none⟩)) := ⟨hk3.cell 0, hk3.cell 1, hl3.cell 3⟩))
  have HL3 := Lib.hid hl3
  have HC3 := Lib.hid hC3
  have HS3 := Lib.hid ((HS2.out.drewN 1).kept ht3 HNe.out.2.2.2.2.2.1 HNe.out.2.2.2.2.2.2.2.1)
  have HR3 := Lib.hid (ht3.own (show w2.drew.ownsRow 0 36 7 b.v E.length (entCells E) from (Turn.refl (fun _ => False) w2).drewN 1 |>.own HR2.out (fun _ _ => id)) (fun k hk e => HNe.out.2.2.2.2.2.2.2.2.2.2.2.2 (e ▸ hk)))
  have hk4 := ht3.blk (HK22.out.drewN 1) (by have := HLt.out; omega)
  have HT3 := Lib.hid (show Turn (fun k => k = b.bm ∨ k = b.g) w1 w3 from HT2.out.trans (((Turn.refl _ w2).drewN 1).trans (ht3.mono (fun _ _ e => Or.inr e))))
  have HK4 := Lib.hid hk4
  have r0 := hk3.cell 0
  have r1 := hk3.cell 1
  have r2 := hk3.cell 2
  have r3 := hk3.cell 3
  have r4 := hk3.cell 4
  have r5 := hk3.cell 5
  simp only [List.getElem?_toArray, List.getElem?_cons_zero, List.getElem?_cons_succ] at r0 r1 r2 r3 r4 r5
  have z0 := hk4.cell 0
  have z1 := hk4.cell 1
  have z2 := hk4.cell 2
  have z3 := hk4.cell 3
  have z4 := hk4.cell 4
  have z5 := hk4.cell 5
  have z6 := hk4.cell 6
  simp only [List.getElem?_toArray, List.getElem?_cons_zero, List.getElem?_cons_succ] at z0 z1 z2 z3 z4 z5 z6
  have f0 := fun j => hk4.frozen j
  clear hq1 hq2 hk3 hk4 hl3 hC3 ht3 HS2 HR2 HL2 HT2 HK22 HK12 HP
  go_wp2_with fail
  have hZ := HK4.out
  have hset : ∃ w4, (((((((w3.setCell ⟨H + 1, 0, none⟩ (.int .i64 r.cl)).setCell ⟨H + 1, 1, none⟩ (.int .i64 r.tm)).setCell ⟨H + 1, 2, none⟩ (.int .i64 r.kd)).setCell ⟨H + 1, 3, none⟩ (.int .i64 r.ky)).setCell ⟨H + 1, 4, none⟩ (.int .i64 r.vl)).setCell ⟨H + 1, 5, none⟩ (.int .i64 r.sg)).setCell ⟨H + 1, 6, none⟩ (.int .i64 x)) = w4 := ⟨_, rfl⟩
  obtain ⟨w4, hw4⟩ := hset
  have hB4 : Blk w4 (H + 1) 36 #[.int .i64 r.cl, .int .i64 r.tm, .int .i64 r.kd, .int .i64 r.ky, .int .i64 r.vl, .int .i64 r.sg, .int .i64 x] := by
    rw [← hw4]
    have := ((((((hZ.set_ 0 (.int .i64 r.cl)).set_ 1 (.int .i64 r.tm)).set_ 2 (.int .i64 r.kd)).set_ 3 (.int .i64 r.ky)).set_ 4 (.int .i64 r.vl)).set_ 5 (.int .i64 r.sg)).set_ 6 (.int .i64 x)
    simpa only [List.setIfInBounds_toArray, List.set_cons_zero, List.set_cons_succ] using this
  have hT4 : Turn (fun k => k = H + 1) w3 w4 := by
    rw [← hw4]
    exact (((((((Turn.refl (fun k => k = H + 1) w3).set_ _ _ rfl).set_ _ _ rfl).set_ _ _ rfl).set_ _ _ rfl).set_ _ _ rfl).set_ _ _ rfl).set_ _ _ rfl
  rw [hw4]
  have q0 := hB4.cell 0
  have q1 := hB4.cell 1
  have q2 := hB4.cell 2
  have q3 := hB4.cell 3
  have q4 := hB4.cell 4
  have q5 := hB4.cell 5
  have q6 := hB4.cell 6
  simp only [List.getElem?_toArray, List.getElem?_cons_zero, List.getElem?_cons_succ] at q0 q1 q2 q3 q4 q5 q6
  have hlt := HLt.out
  have hne := HNe.out
  have hzone : ∀ k, ({ b with N := b.N + 1 } : Lb).zone k → ¬ k = H + 1 := fun k hk e => by
    have h1 := HZn.out k hk
    have := HHh.out
    omega
  have hlen : (s.done r).2.length = s.2.length := Sc.done_len s r
  have hdone : (putC s.2 r.cl r.tm x).2 = (s.done r).2 := by rw [← HX.out]; rfl
  have hL3 : Lg w3 { b with N := b.N + 1 } (s.done r) E := ⟨by rw [hlen]; exact HL3.out, HR3.out, HS3.out, by rw [← hdone]; exact HC3.out, Nat.le_succ_of_le HF.out⟩
  refine bodyPost_ret (v := .agg #[.int .i64 r.cl, .int .i64 r.tm, .int .i64 r.kd, .int .i64 r.ky, .int .i64 r.vl, .int .i64 r.sg, .int .i64 x]) ?_ rfl ⟨rfl, hL3.kept hT4 hzone, ?_⟩
  · simp [results, Try.results39, go_sem, q0, q1, q2, q3, q4, q5, q6]
  · have t1 : Turn (fun k => (k = b.bm ∨ k = b.g) ∨ k = H + 1) w w1 := Turn.of_below (HHh.out ▸ HB.out)
    have t2 := (t1.trans (HT3.out.mono (fun _ _ e => Or.inl e))).trans (hT4.mono (Z' := fun k => (k = b.bm ∨ k = b.g) ∨ k = H + 1) (fun _ _ e => Or.inr e))
    refine t2.mono (fun k hk e => ?_)
    rcases e with e | e
    · exact e
    · have := HHh.out
      omega
end
end Go.Proofs.Ytpjcedilkahpiaa
