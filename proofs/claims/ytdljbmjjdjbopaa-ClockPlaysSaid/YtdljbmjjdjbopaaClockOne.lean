/- Package clock: a clock with at most one timer; the example of the document. -/
import Derived.Test.YtdljbmjjdjbopaaClockDue2
import Derived.Test.YtdljbmjjdjbopaaSameInts
namespace Go.Proofs.Ytdljbmjjdjbopaa
open Go.RowKit Go.Maps

/-- A clock that was made since w. -/
structure Cs (w : World) (cb bm : Nat) (now : Int) (N : Nat) (S : Ts) (wr : World) : Prop where
  ck : Ck wr cb bm now N S
  low : Below w.heap.size w wr
  b0 : w.heap.size ≤ cb
  b1 : w.heap.size ≤ bm
section
variable {w wr : World} {cb bm N : Nat} {now : Int} {S : Ts}
theorem Cs.turned {Z : Nat → Prop} {w2 : World} (h : Cs w cb bm now N S wr) (ht : Turn Z wr w2) (hz : ∀ k, Z k → k = cb ∨ k = bm) : Below w.heap.size w w2 :=
  h.low.trans (ht.below h.low.size (fun k hk hz' => by have h0 := h.b0; have h1 := h.b1; rcases hz k hz' with e | e <;> omega))
theorem Cs.below {w2 : World} (h : Cs w cb bm now N S wr) (hb : Below wr.heap.size wr w2) : Cs w cb bm now N S w2 := ⟨h.ck.below hb, h.low.trans (hb.mono h.low.size), h.b0, h.b1⟩
theorem Cs.drewN (h : Cs w cb bm now N S wr) (n : Nat) : Cs w cb bm now N S (wr.drewN n) := ⟨h.ck.drewN n, below_drewN h.low n, h.b0, h.b1⟩
theorem cs_new (w wr : World) (hb : Below w.heap.size w wr) : Calls Try.prog 7 #[] wr fun e w' => ∃ cb bm, e = .returned (.pointer (some ⟨cb, 0, none⟩)) ∧ Cs w cb bm 0 0 Ts.new w' :=
  (cnew_any wr).mono fun _ _ ⟨cb, bm, he, hc, h0, h1, h2⟩ => ⟨cb, bm, he, hc, hb.trans (h2.mono hb.size), Nat.le_trans hb.size h0, Nat.le_trans hb.size h1⟩
theorem Cs.tick (h : Cs w cb bm now N S wr) (h0 : 0 ≤ now) (h1 : now < 1048576) :
    Calls Try.prog 11 #[.pointer (some ⟨cb, 0, none⟩)] wr fun e w' => e = .returned (.bool true) ∧ Cs w cb bm (now + 1) N S w' :=
  (tick_any h.ck h0 h1).mono fun _ _ ⟨he, hc, ht⟩ => ⟨he, hc, h.turned ht (fun _ hk => Or.inl hk), h.b0, h.b1⟩
theorem Cs.set (h : Cs w cb bm now N S wr) (hN : N < maxLen) (hn : 0 ≤ now ∧ now ≤ 1048576) {p t : Int} (hp : fit p) (h1 : 1 ≤ t) (h2 : t ≤ 1048576) :
    Calls Try.prog 10 #[.pointer (some ⟨cb, 0, none⟩), .int .i64 p, .int .i64 t] wr fun e w' => e = .returned (.bool true) ∧ Cs w cb bm now (N + 1) (S.set p (now + t)) w' :=
  (set_on h.ck hN hn hp h1 h2).mono fun _ _ ⟨he, hc, ht⟩ => ⟨he, hc, h.turned ht (fun _ hk => Or.inr hk), h.b0, h.b1⟩
theorem Cs.drop (h : Cs w cb bm now N S wr) {p : Int} (hp : fit p) :
    Calls Try.prog 16 #[.pointer (some ⟨cb, 0, none⟩), .int .i64 p] wr fun e w' => e = .returned (.bool (S p).isSome) ∧ Cs w cb bm now N (S.del p) w' :=
  (drop_any h.ck hp).mono fun _ _ ⟨he, hc, ht⟩ => ⟨he, hc, h.turned ht (fun _ hk => Or.inr hk), h.b0, h.b1⟩
theorem Cs.due (h : Cs w cb bm now N S wr) (hN : N ≤ 1000000) :
    Calls Try.prog 12 #[.pointer (some ⟨cb, 0, none⟩)] wr fun e w' => ∃ A c l, e = .returned (.slice A l.length c) ∧ Has w' w'.heap.size A (ics l) ∧ w'.ownsRow wr.heap.size 3 1 (.slice A l.length c) l.length (ics l) ∧ DueIs S now l ∧ Cs w cb bm now N (S.strip l) w' :=
  (due_any h.ck hN).mono fun _ _ ⟨v, l, he, ho, hd, hc, ht⟩ => by
    obtain ⟨A, c, rfl, _, _⟩ := own_slice ho
    exact ⟨A, c, l, he, Has.own ho, ho, hd, hc, h.turned ht (fun _ hk => Or.inr hk), h.b0, h.b1⟩
end
/-- At most one timer: the id p's. -/
def Solo (S : Ts) (p : Int) (o : Option Int) : Prop := ∀ q, S q = if q = p then o else none
structure C1 (w : World) (cb bm : Nat) (now : Int) (N : Nat) (p : Int) (o : Option Int) (wr : World) : Prop where
  ex : ∃ S, Cs w cb bm now N S wr ∧ Solo S p o
section
variable {w wr : World} {cb bm N : Nat} {nw p : Int} {o : Option Int}
theorem C1.low (h : C1 w cb bm nw N p o wr) : Below w.heap.size w wr := h.ex.elim fun _ h => h.1.low
theorem C1.below {w2 : World} (h : C1 w cb bm nw N p o wr) (hb : Below wr.heap.size wr w2) : C1 w cb bm nw N p o w2 := ⟨h.ex.elim fun S h => ⟨S, h.1.below hb, h.2⟩⟩
theorem C1.drewN (h : C1 w cb bm nw N p o wr) (n : Nat) : C1 w cb bm nw N p o (wr.drewN n) := ⟨h.ex.elim fun S h => ⟨S, h.1.drewN n, h.2⟩⟩
theorem c1_new (w wr : World) (p : Int) (hb : Below w.heap.size w wr) : Calls Try.prog 7 #[] wr fun e w' => ∃ cb bm, e = .returned (.pointer (some ⟨cb, 0, none⟩)) ∧ C1 w cb bm 0 0 p none w' :=
  (cs_new w wr hb).mono fun _ _ ⟨cb, bm, he, hc⟩ => ⟨cb, bm, he, ⟨Ts.new, hc, fun q => by by_cases e : q = p <;> simp [Ts.new]⟩⟩
theorem C1.tick (h : C1 w cb bm nw N p o wr) (h0 : 0 ≤ nw) (h1 : nw < 1048576) :
    Calls Try.prog 11 #[.pointer (some ⟨cb, 0, none⟩)] wr fun e w' => e = .returned (.bool true) ∧ C1 w cb bm (nw + 1) N p o w' := by
  obtain ⟨S, hc, hs⟩ := h.ex
  exact (hc.tick h0 h1).mono fun _ _ ⟨he, hc⟩ => ⟨he, S, hc, hs⟩
theorem C1.set (h : C1 w cb bm nw N p o wr) (hN : N < maxLen) (hn : 0 ≤ nw ∧ nw ≤ 1048576) {t : Int} (hp : fit p) (h1 : 1 ≤ t) (h2 : t ≤ 1048576) :
    Calls Try.prog 10 #[.pointer (some ⟨cb, 0, none⟩), .int .i64 p, .int .i64 t] wr fun e w' => e = .returned (.bool true) ∧ C1 w cb bm nw (N + 1) p (some (nw + t)) w' := by
  obtain ⟨S, hc, hs⟩ := h.ex
  refine (hc.set hN hn hp h1 h2).mono fun _ _ ⟨he, hc⟩ => ⟨he, _, hc, fun q => ?_⟩
  by_cases e : q = p
  · subst e; rw [Ts.set_same, if_pos rfl]
  · rw [Ts.set_other _ e, hs q, if_neg e, if_neg e]
theorem Solo.del {S : Ts} (hs : Solo S p o) : Solo (S.del p) p none := fun q => by
  by_cases e : q = p
  · subst e; rw [Ts.del_same, if_pos rfl]
  · rw [Ts.del_other _ e, hs q, if_neg e, if_neg e]
theorem C1.drop (h : C1 w cb bm nw N p o wr) (hp : fit p) :
    Calls Try.prog 16 #[.pointer (some ⟨cb, 0, none⟩), .int .i64 p] wr fun e w' => e = .returned (.bool o.isSome) ∧ C1 w cb bm nw N p none w' := by
  obtain ⟨S, hc, hs⟩ := h.ex
  refine (hc.drop hp).mono fun _ _ ⟨he, hc⟩ => ⟨?_, _, hc, hs.del⟩
  rw [he, hs p, if_pos rfl]
theorem Solo.due_off {S : Ts} {l : List Int} (hs : Solo S p o) (ho : ∀ f, o = some f → nw < f) (h : DueIs S nw l) : l = [] := by
  refine List.eq_nil_iff_forall_not_mem.2 fun q hq => ?_
  obtain ⟨f, hf, hfn⟩ := (h.mem q).1 hq
  rw [hs q] at hf
  by_cases e : q = p
  · rw [if_pos e] at hf; have := ho f hf; omega
  · rw [if_neg e] at hf; cases hf
theorem Solo.due_on {S : Ts} {l : List Int} {f : Int} (hs : Solo S p (some f)) (ho : f ≤ nw) (h : DueIs S nw l) : l = [p] := by
  refine rising_eq h.up (by simp) fun q => ?_
  rw [h.mem q, List.mem_singleton, hs q]
  by_cases e : q = p
  · rw [if_pos e]; exact ⟨fun _ => e, fun _ => ⟨f, rfl, ho⟩⟩
  · rw [if_neg e]; exact ⟨fun ⟨_, h, _⟩ => (by cases h), fun h => absurd h e⟩
theorem C1.due_off (h : C1 w cb bm nw N p o wr) (hN : N ≤ 1000000) (ho : ∀ f, o = some f → nw < f) :
    Calls Try.prog 12 #[.pointer (some ⟨cb, 0, none⟩)] wr fun e w' => ∃ A c, e = .returned (.slice A 0 c) ∧ C1 w cb bm nw N p o w' := by
  obtain ⟨S, hc, hs⟩ := h.ex
  refine (hc.due hN).mono fun _ _ ⟨A, c, l, he, _, _, hd, hc⟩ => ?_
  obtain rfl := hs.due_off ho hd
  rw [Ts.strip_nil] at hc
  exact ⟨A, c, he, S, hc, hs⟩
theorem C1.due_on {f : Int} (h : C1 w cb bm nw N p (some f) wr) (hN : N ≤ 1000000) (ho : f ≤ nw) :
    Calls Try.prog 12 #[.pointer (some ⟨cb, 0, none⟩)] wr fun e w' => ∃ A c, e = .returned (.slice A 1 c) ∧ Has w' w'.heap.size A [.int .i64 p] ∧ C1 w cb bm nw N p none w' := by
  obtain ⟨S, hc, hs⟩ := h.ex
  refine (hc.due hN).mono fun _ _ ⟨A, c, l, he, hh, _, hd, hc⟩ => ?_
  obtain rfl := hs.due_on ho hd
  have e1 : S.strip [p] = S.del p := by funext q; simp [Ts.strip, Ts.del]
  rw [e1] at hc
  exact ⟨A, c, he, hh, _, hc, hs.del⟩
theorem C1.left_on {f : Int} (h : C1 w cb bm nw N p (some f) wr) (hn : 0 ≤ nw ∧ nw ≤ 1048576) (hp : fit p) :
    Calls Try.prog 14 #[.pointer (some ⟨cb, 0, none⟩), .int .i64 p] wr fun e w' => e = .returned (.tuple #[.int .i64 (max (f - nw) 0), .bool true]) ∧ wr = w' := by
  obtain ⟨S, hc, hs⟩ := h.ex
  exact Go.Proofs.Ytdljbmjjdjbopaa.left_on hc.ck hn hp ((hs p).trans (if_pos rfl))
theorem C1.left_off (h : C1 w cb bm nw N p none wr) (hp : fit p) :
    Calls Try.prog 14 #[.pointer (some ⟨cb, 0, none⟩), .int .i64 p] wr fun e w' => e = .returned (.tuple #[.int .i64 0, .bool false]) ∧ wr = w' := by
  obtain ⟨S, hc, hs⟩ := h.ex
  exact Go.Proofs.Ytdljbmjjdjbopaa.left_off hc.ck hp ((hs p).trans (if_pos rfl))
theorem C1.now (h : C1 w cb bm nw N p o wr) : Calls Try.prog 13 #[.pointer (some ⟨cb, 0, none⟩)] wr fun e w' => e = .returned (.int .i64 nw) ∧ wr = w' :=
  h.ex.elim fun _ h => now_any h.1.ck
end
theorem same_one9 (p : Int) : sameB [p] [p] = true := by simp [sameB]
/-- Same of what Due told and the one id. -/
theorem same_due {w : World} {A A' : Option Addr} {c c' B : Nat} {p : Int} (h1 : Has w B A [.int .i64 p]) (h2 : Has w B A' [.int .i64 p]) :
    Calls Try.prog 15 #[.slice A 1 c, .slice A' 1 c'] w fun e w' => e = .returned (.bool true) ∧ ∃ nq, w' = w.drewN nq := by
  have h := same_ints A A' c c' [p] [p] B w (by simp) h1 h2
  rw [same_one9] at h
  exact h
set_option maxHeartbeats 1000000 in
theorem wakes9_any (w : World) : Calls Try.prog 8 #[] w fun e w' => e = .returned (.bool true) ∧ Below w.heap.size w w' := by
  have f5 : fit 5 := WalkArith.wf_i64 (by omega)
  have hm : 0 < maxLen := by unfold maxLen; omega
  have F5 := Lib.hid f5
  have HM := Lib.hid hm
  clear f5 hm
  go_enter Try.func8, Try.ntmps8
  go_wp2_with fail
  refine (c1_new w _ 5 (Below.refl _ _)).mono ?_
  rintro e w1 ⟨cb, bm, rfl, h1⟩
  have H1 := Lib.hid h1
  clear h1
  go_wp2_with fail
  refine (H1.out.set HM.out (by omega) F5.out (by omega) (by omega)).mono ?_
  rintro e w2 ⟨rfl, h2⟩
  have H2 := Lib.hid h2
  clear h2
  go_wp2_with fail
  refine (H2.out.tick (by omega) (by omega)).mono ?_
  rintro e w3 ⟨rfl, h3⟩
  have H3 := Lib.hid h3
  clear h3
  go_wp2_with fail
  refine (H3.out.due_off (by omega) (fun f hf => by injection hf; omega)).mono ?_
  rintro e w4 ⟨A, c, rfl, h4⟩
  have H4 := Lib.hid h4
  clear h4
  go_wp2_with fail
  refine (H4.out.tick (by omega) (by omega)).mono ?_
  rintro e w5 ⟨rfl, h5⟩
  have H5 := Lib.hid h5
  clear h5
  go_wp2_with fail
  refine (H5.out.due_on (by omega) (by omega)).mono ?_
  rintro e w6 ⟨A2, c2, rfl, hh, h6⟩
  have H6 := Lib.hid h6
  have HH := Lib.hid hh
  clear h6 hh
  go_wp2_with fail
  have HB := Lib.hid ((Below.refl w6.heap.size w6).alloc (Nat.le_refl _) (.cells #[.int .i64 5] 3))
  have HA := Lib.hid (Has.fresh w6 #[.int .i64 5] 3)
  refine (same_due (Has.tight (HH.out.below HB.out (Nat.le_refl _))) (Has.tight HA.out)).mono ?_
  rintro e w7 ⟨rfl, nq, hw7⟩
  have H7 := Lib.hid (show C1 w cb bm (0 + 1 + 1) (0 + 1) 5 none w7 from by rw [hw7]; exact (H6.out.below HB.out).drewN nq)
  clear hw7
  go_wp2_with fail
  refine (H7.out.due_off (by omega) (fun f hf => by cases hf)).mono ?_
  rintro e w8 ⟨A3, c3, rfl, h8⟩
  have H8 := Lib.hid h8
  clear h8
  go_wp2_with fail
  go_ret
  exact ⟨rfl, H8.out.low⟩
end Go.Proofs.Ytdljbmjjdjbopaa
