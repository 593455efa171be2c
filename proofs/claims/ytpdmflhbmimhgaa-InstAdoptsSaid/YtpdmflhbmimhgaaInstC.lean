/- Package inst: New, Next, Leave, Certs. -/
import Derived.Test.YtpdmflhbmimhgaaInstB
namespace Go.Proofs.Ytpdmflhbmimhgaa
open Go.RowKit
set_option linter.unusedSimpArgs false

def nilP : Value := .pointer none
def Ix.new (f num ah : Int) (n : Nat) : Ix := ⟨f, num, ah, 0, true, List.replicate 16 ⟨Sx.new n, none, none⟩⟩
/-- So many places have their slots. -/
structure Nw (w : World) (ib : Nat) (f num ah : Int) (n k : Nat) (wr : World) : Prop where
  low : Below w.heap.size w wr
  ex : ∃ E : List Pe, E.length = k ∧ Blk wr ib 84 (hdI (Ix.new f num ah n) ++ (peCells E ++ List.replicate ((16 - k) * 3) nilP)).toArray ∧
    (∀ (i : Nat) (e : Pe), E[i]? = some e → e.x = ⟨Sx.new n, none, none⟩ ∧ e.pa = none ∧ e.ca = none ∧ Sl wr (fun _ => True) e.sb e.v1 e.v2 f (Sx.new n) ∧ ∀ j, e.Z j → w.heap.size ≤ j) ∧
    ∀ (i j : Nat) (a b : Pe), E[i]? = some a → E[j]? = some b → i ≠ j → ∀ m, a.Z m → ¬ b.Z m
theorem peCells_app (E F : List Pe) : peCells (E ++ F) = peCells E ++ peCells F := List.flatMap_append
theorem new_set {x : Ix} {E : List Pe} {k : Nat} (hk : k < 16) (hE : E.length = k) (e : Pe) (ha : e.pa = none) (hc : e.ca = none) :
    (hdI x ++ (peCells E ++ List.replicate ((16 - k) * 3) nilP)).toArray.setIfInBounds (4 + k * 3) (.pointer (some ⟨e.sb, 0, none⟩)) = (hdI x ++ (peCells (E ++ [e]) ++ List.replicate ((16 - (k + 1)) * 3) nilP)).toArray := by
  apply Array.ext'
  rw [Array.toList_setIfInBounds]
  show (hdI x ++ (peCells E ++ List.replicate ((16 - k) * 3) nilP)).set (4 + k * 3) _ = hdI x ++ (peCells (E ++ [e]) ++ List.replicate ((16 - (k + 1)) * 3) nilP)
  rw [List.set_append_right _ _ (by show 4 ≤ _; omega), show 4 + k * 3 - (hdI x).length = k * 3 by show _ - 4 = _; omega, List.set_append_right _ _ (by rw [peCells_len, hE]; omega), peCells_len, hE, Nat.sub_self,
    peCells_app, List.append_assoc, show (16 - k) * 3 = (16 - (k + 1)) * 3 + 3 by omega, List.replicate_succ, List.replicate_succ, List.replicate_succ, List.set_cons_zero]
  congr 2
  show _ = e.cells ++ [] ++ _
  unfold Pe.cells
  rw [ha, hc]
  rfl
theorem Nw.step {w wr w2 : World} {ib k n : Nat} {f num ah : Int} (h : Nw w ib f num ah n k wr) (hk : k < 16) (hib : w.heap.size ≤ ib) {sb : Nat} {v1 v2 : Value} (hs : Sl w2 (fun k => wr.heap.size ≤ k) sb v1 v2 f (Sx.new n)) (hz : ∀ j, SZ sb v1 v2 j → wr.heap.size ≤ j) (hb : Below wr.heap.size wr w2) :
    Nw w ib f num ah n (k + 1) (w2.setCell ⟨ib, 4 + k * 3, none⟩ (.pointer (some ⟨sb, 0, none⟩))) := by
  obtain ⟨E, h1, h2, h3, h4⟩ := h.ex
  have h2' := h2.below hb h2.lt
  have ht : Turn (fun j => j = ib) w2 (w2.setCell ⟨ib, 4 + k * 3, none⟩ (.pointer (some ⟨sb, 0, none⟩))) := (Turn.refl (fun j => j = ib) w2).set_ ⟨ib, 4 + k * 3, none⟩ _ rfl
  have hf : Far w2 (fun j => j = ib) := fun k' t cs hb h1 _ _ e => hb.ne_ h2' h1 e
  have hkeep : ∀ {sb' : Nat} {u1 u2 : Value} {s : Sx}, Sl w2 (fun _ => True) sb' u1 u2 f s → Sl (w2.setCell ⟨ib, 4 + k * 3, none⟩ (.pointer (some ⟨sb, 0, none⟩))) (fun _ => True) sb' u1 u2 f s := fun hs' =>
    hs'.kept ht (fun m hm em => hs'.off h2' (by decide) (by decide) (em ▸ hm)) (fun _ _ hb => hf.own hb.own (by decide) (by decide) (by decide))
  have hset : ∀ (i : Nat) (a : Pe), (E ++ [⟨⟨Sx.new n, none, none⟩, sb, v1, v2, none, none⟩])[i]? = some a → (E[i]? = some a ∧ i < k) ∨ (i = k ∧ a = ⟨⟨Sx.new n, none, none⟩, sb, v1, v2, none, none⟩) := by
    intro i a ha
    rcases Nat.lt_or_ge i E.length with hi | hi
    · rw [List.getElem?_append_left hi] at ha
      exact Or.inl ⟨ha, by omega⟩
    · rw [List.getElem?_append_right hi] at ha
      have : i - E.length = 0 := by
        have := (List.getElem?_eq_some_iff.1 ha).1
        simpa using this
      rw [this] at ha
      exact Or.inr ⟨by omega, (by simpa using ha.symm)⟩
  refine ⟨(h.low.trans (hb.mono h.low.size)).trans (ht.below (Nat.le_trans h.low.size hb.size) (fun j hj e => by omega)), E ++ [⟨⟨Sx.new n, none, none⟩, sb, v1, v2, none, none⟩], by rw [List.length_append, h1]; rfl, ?_, ?_, ?_⟩
  · rw [← new_set hk h1 ⟨⟨Sx.new n, none, none⟩, sb, v1, v2, none, none⟩ rfl rfl]
    exact h2'.set_ (4 + k * 3) _
  · intro i a ha
    rcases hset i a ha with ⟨ha, _⟩ | ⟨_, rfl⟩
    · obtain ⟨a1, a2, a3, a4, a5⟩ := h3 i a ha
      exact ⟨a1, a2, a3, hkeep (a4.below hb), a5⟩
    · exact ⟨rfl, rfl, rfl, hkeep (hs.mono (fun _ _ => trivial)), fun j hj => Nat.le_trans h.low.size (hz j hj)⟩
  · intro i j a b ha hb' hij m hma hmb
    rcases hset i a ha with ⟨ha, _⟩ | ⟨e1, e2⟩ <;> rcases hset j b hb' with ⟨hb', _⟩ | ⟨e3, e4⟩
    · exact h4 i j a b ha hb' hij m hma hmb
    · rw [e4] at hmb
      have := (h3 i a ha).2.2.2.1.lt hma
      have := hz m hmb
      omega
    · rw [e2] at hma
      have := (h3 j b hb').2.2.2.1.lt hmb
      have := hz m hma
      omega
    · exact hij (e1.trans e3.symm)
theorem Nw.done {w wr : World} {ib n : Nat} {f num ah : Int} (h : Nw w ib f num ah n 16 wr) (hib : w.heap.size ≤ ib) (f1 : 1 ≤ f) (f4 : f ≤ 4) (n0 : 0 ≤ num) (nf : num ≤ f) (a1 : 1 ≤ ah) (a2 : ah ≤ 16) : ∃ E, In wr ib (Ix.new f num ah n) E ∧ ∀ k, IZ ib E k → w.heap.size ≤ k := by
  obtain ⟨E, h1, h2, h3, h4⟩ := h.ex
  refine ⟨E, ⟨f1, f4, ⟨n0, Int.le_trans nf f4⟩, ⟨a1, a2⟩, ⟨by show (0 : Int) ≤ 0; omega, by show (0 : Int) ≤ 12; omega⟩, h1, ?_, ?_, fun i e he => ?_, h4⟩, ?_⟩
  · show _ = List.replicate 16 _
    apply List.eq_replicate_iff.2
    refine ⟨by rw [List.length_map, h1], fun b hb => ?_⟩
    obtain ⟨e, he, rfl⟩ := List.mem_map.1 hb
    obtain ⟨i, hi⟩ := List.getElem?_of_mem he
    exact (h3 i e hi).1
  · have : (hdI (Ix.new f num ah n) ++ (peCells E ++ List.replicate ((16 - 16) * 3) nilP)).toArray = inCells (Ix.new f num ah n) E := by
      unfold inCells
      show (_ ++ (_ ++ [])).toArray = _
      rw [List.append_nil]
    rw [← this]
    exact h2
  · obtain ⟨a1, a2, a3, a4, a5⟩ := h3 i e he
    refine ⟨by rw [a1]; exact a4, ?_, ?_⟩
    · rw [a1, a2]; trivial
    · rw [a1, a3]; trivial
  · rintro k (rfl | ⟨i, e, he, hk⟩)
    · exact hib
    · exact (h3 i e he).2.2.2.2 k hk
set_option maxRecDepth 100000 in
set_option maxHeartbeats 4000000 in
theorem inew_any {f num ah : Int} {n : Nat} (f1 : 1 ≤ f) (f4 : f ≤ 4) (n0 : 0 ≤ num) (nf : num ≤ f) (a1 : 1 ≤ ah) (a2 : ah ≤ 16) (hn : (n : Int) = 3 * f + 1) (w : World) :
    Calls Try.prog 12 #[.int .i64 f, .int .i64 num, .int .i64 ah] w fun e w' => ∃ ib E, e = .returned (.tuple #[.pointer (some ⟨ib, 0, none⟩), .int .i64 0]) ∧ In w' ib (Ix.new f num ah n) E ∧ (∀ k, IZ ib E k → w.heap.size ≤ k) ∧ Below w.heap.size w w' := by
  have g1 : decide (f < 1) = false := decide_eq_false (by omega)
  have g2 : decide (4 < f) = false := decide_eq_false (by omega)
  have g3 : decide (num < 0) = false := decide_eq_false (by omega)
  have g4 : decide (f < num) = false := decide_eq_false (by omega)
  have g5 : decide (ah < 1) = false := decide_eq_false (by omega)
  have g6 : decide (16 < ah) = false := decide_eq_false (by omega)
  have HS := Lib.hid (fun w => slnew_any f1 f4 hn w)
  have HD := Lib.hid (fun (wr : World) (h : Nw w w.heap.size f num ah n 16 wr) => h.done (Nat.le_refl _) f1 f4 n0 nf a1 a2)
  have H0 := Lib.hid (show Nw w w.heap.size f num ah n 0 (w.alloc (.cells (hdI (Ix.new f num ah n) ++ (peCells [] ++ List.replicate ((16 - 0) * 3) nilP)).toArray 84)) from ⟨(Below.refl _ _).alloc (Nat.le_refl _) _, [], rfl, Blk.new w _ _, by simp, by simp⟩)
  clear f1 f4 n0 nf a1 a2 hn
  go_enter Try.func12, Try.ntmps12
  go_wp2_with fail
  go_loopw [37] (fun x wr => ∃ k : Nat, x = .int .i64 k ∧ k ≤ 16 ∧ Hid (Nw w w.heap.size f num ah n k wr)) (fun x _ => 16 - (intOf x).toNat)
  case atStart => exact ⟨0, rfl, Nat.zero_le _, H0⟩
  case round =>
    obtain ⟨k, rfl, hk, HN⟩ := hrel
    by_cases hlt : k < 16
    · have hlt' : (k : Int) < 16 := by omega
      go_wp2_with fail
      have HN1 := Lib.hid (show Nw w w.heap.size f num ah n k wr.drew from by
        obtain ⟨E, h1, h2, h3, h4⟩ := HN.out.ex
        have hb : Below wr.heap.size wr wr.drew := ⟨rfl, rfl, rfl, Nat.le_refl _, fun _ _ => rfl⟩
        exact ⟨HN.out.low.trans (hb.mono HN.out.low.size), E, h1, h2, fun i e he => ⟨(h3 i e he).1, (h3 i e he).2.1, (h3 i e he).2.2.1, (h3 i e he).2.2.2.1.below hb, (h3 i e he).2.2.2.2⟩, h4⟩)
      have HC := Lib.hid (fun (w2 : World) (hb : Below wr.drew.heap.size wr.drew w2) => show w2.cell? ⟨w.heap.size, 4 + k * 3, none⟩ = some nilP ∧ w2.frozen? ⟨w.heap.size, 4 + k * 3, none⟩ = false from by
        obtain ⟨E, h1, h2, h3, h4⟩ := HN1.out.ex
        have h2' := h2.below hb h2.lt
        refine ⟨?_, h2'.frozen _⟩
        rw [h2'.cell, List.getElem?_toArray, List.getElem?_append_right (by show 4 ≤ _; omega), show 4 + k * 3 - (hdI (Ix.new f num ah n)).length = k * 3 by show _ - 4 = _; omega, List.getElem?_append_right (by rw [peCells_len, h1]; omega), peCells_len, h1, Nat.sub_self, List.getElem?_replicate, if_pos (by omega)])
      go_region_held3 (fun _ => True) (trivial) ((go_at_call 37; with_reducible refine (HS.out _).mono ?_; rintro e w2 ⟨sb, v1, v2, rfl, hs, hz, hb⟩; obtain ⟨hc0, hf0⟩ := HC.out _ hb; have HN2 := Lib.hid (HN1.out.step hlt (Nat.le_refl _) hs hz hb)))
      go_wp2_with fail
      go_roundw
      case rel => exact ⟨k + 1, by go_num, by omega, HN2⟩
      case measure => simp [intOf]; omega
    · obtain rfl : k = 16 := by omega
      obtain ⟨E, h1, h2⟩ := HD.out _ HN.out
      have HI := Lib.hid h1
      have HZ := Lib.hid h2
      clear h1 h2
      go_wp2_with fail
      go_ret2
      exact ⟨_, E, rfl, HI.out, HZ.out, HN.out.low⟩
theorem inew_out {f num ah : Int} (h : ¬ (1 ≤ f ∧ f ≤ 4 ∧ 0 ≤ num ∧ num ≤ f ∧ 1 ≤ ah ∧ ah ≤ 16)) (w : World) :
    Calls Try.prog 12 #[.int .i64 f, .int .i64 num, .int .i64 ah] w fun e w' => e = .returned (.tuple #[.pointer none, .int .i64 1]) ∧ w = w' := by
  have g1 : ∃ b1, decide (f < 1) = b1 := ⟨_, rfl⟩
  obtain ⟨b1, g1⟩ := g1
  obtain ⟨b2, g2⟩ : ∃ b, decide (4 < f) = b := ⟨_, rfl⟩
  obtain ⟨b3, g3⟩ : ∃ b, decide (num < 0) = b := ⟨_, rfl⟩
  obtain ⟨b4, g4⟩ : ∃ b, decide (f < num) = b := ⟨_, rfl⟩
  obtain ⟨b5, g5⟩ : ∃ b, decide (ah < 1) = b := ⟨_, rfl⟩
  obtain ⟨b6, g6⟩ : ∃ b, decide (16 < ah) = b := ⟨_, rfl⟩
  have hb : (b1 || b2 || b3 || b4 || b5 || b6) = true := by
    rw [← g1, ← g2, ← g3, ← g4, ← g5, ← g6]
    simp only [Bool.or_eq_true, decide_eq_true_eq]
    omega
  clear h
  cases b1 with
  | true =>
    clear hb
    go_enter Try.func12, Try.ntmps12
    go_wp2_with fail
    go_ret2
    exact ⟨rfl, rfl⟩
  | false =>
  cases b2 with
  | true =>
    clear hb
    go_enter Try.func12, Try.ntmps12
    go_wp2_with fail
    go_ret2
    exact ⟨rfl, rfl⟩
  | false =>
  cases b3 with
  | true =>
    clear hb
    go_enter Try.func12, Try.ntmps12
    go_wp2_with fail
    go_ret2
    exact ⟨rfl, rfl⟩
  | false =>
  cases b4 with
  | true =>
    clear hb
    go_enter Try.func12, Try.ntmps12
    go_wp2_with fail
    go_ret2
    exact ⟨rfl, rfl⟩
  | false =>
  cases b5 with
  | true =>
    clear hb
    go_enter Try.func12, Try.ntmps12
    go_wp2_with fail
    go_ret2
    exact ⟨rfl, rfl⟩
  | false =>
    obtain rfl : b6 = true := hb
    go_enter Try.func12, Try.ntmps12
    go_wp2_with fail
    go_ret2
    exact ⟨rfl, rfl⟩
end Go.Proofs.Ytpdmflhbmimhgaa
namespace Go.Proofs.Ytpdmflhbmimhgaa
open Go.RowKit
set_option linter.unusedSimpArgs false

theorem In.range {w : World} {ib : Nat} {x : Ix} {E : List Pe} (h : In w ib x E) : w.rangeAt ib 4 (peCells E) := by
  intro j v hj
  rw [h.blk.cell]
  unfold inCells
  rw [List.getElem?_toArray, List.getElem?_append_right (by show 4 ≤ _; omega), show 4 + j - (hdI x).length = j by show _ - 4 = _; omega]
  exact hj
theorem info_places : (Try.prog.info? 82).map (·.size) = some 48 := by kernel_rfl
theorem info_place : (Try.prog.info? 81).map (·.size) = some 3 := by kernel_rfl
theorem run_index_pl {E : List Pe} {k : Nat} {e : Pe} (he : E[k]? = some e) (hE : E.length = 16) (w : World) :
    (Instr.index 82 (.agg (peCells E).toArray) (.int .i64 (k : Int))).run Try.prog w = .ok (.agg #[.pointer (some ⟨e.sb, 0, none⟩), .pointer (adO e.pa), .pointer (adO e.ca)]) w := by
  have hk : k < 16 := by have := (List.getElem?_eq_some_iff.1 he).1; omega
  have h1 : (0 : Int) ≤ (k : Int) ∧ (k : Int) < (16 : Nat) := by omega
  have h3 : (sizeOf 81).run Try.prog w = .ok 3 w := by
    unfold sizeOf typeInfo
    cases hq : Try.prog.info? 81 with
    | none => have := info_place; rw [hq] at this; cases this
    | some i =>
      have hs : i.size = 3 := by have := info_place; rw [hq] at this; simpa using this
      simp [hq, hs, Sem.run_bind]
  have h4 : (isAgg 81).run Try.prog w = .ok true w := by
    unfold isAgg
    rw [Sem.run_bind, run_underlying Try.underlying81 w]
    rfl
  simp [Instr.index, run_underlying Try.underlying82, asIntOf, h1, h3, h4, part, go_sem, Sem.run_bind]
  rw [if_pos hk, peCells_part he]
  rfl
/-- The least seq above all those in which a batch is chosen, of the first k. -/
def nextAt (L : List Px) : Nat → Nat
  | 0 => 1
  | k + 1 => if ((L[k]?).map fun p => p.s.ch.isSome).getD false then k + 2 else nextAt L k
theorem nextAt_le (L : List Px) : ∀ k, nextAt L k ≤ k + 1
  | 0 => Nat.le_refl _
  | k + 1 => by
    unfold nextAt
    have := nextAt_le L k
    split <;> omega
theorem nextAt_step {L : List Px} {k : Nat} {p : Px} (h : L[k]? = some p) : nextAt L (k + 1) = if p.s.ch.isSome = true then k + 2 else nextAt L k := by
  show (if ((L[k]?).map fun p => p.s.ch.isSome).getD false then k + 2 else nextAt L k) = _
  rw [h]
  rfl
set_option maxRecDepth 100000 in
set_option maxHeartbeats 2000000 in
theorem inext_any {w : World} {ib : Nat} {x : Ix} {E : List Pe} (h : In w ib x E) :
    Calls Try.prog 33 #[.pointer (some ⟨ib, 0, none⟩)] w fun e w' => e = .returned (.int .i64 (nextAt x.L 16)) ∧ Below w.heap.size w w' := by
  have HI := Lib.hid h
  have HR := Lib.hid h.range
  have HL := Lib.hid (show some 48 = some (peCells E).length by rw [peCells_len, h.ln])
  obtain ⟨ar, har⟩ : ∃ y, (peCells E).toArray = y := ⟨_, rfl⟩
  have HA := Lib.hid har
  clear h har
  go_enter Try.func33, Try.ntmps33
  go_wp2_with (refine wpList_load_mid rfl 82 _ rfl ib 4 rfl (peCells E) _ HR.out Try.underlying82 rfl (info_places.trans HL.out) ?_)
  rw [HA.out]
  go_loopw [3, 12] (fun v y wr => ∃ k : Nat, v = .int .i64 (nextAt x.L k) ∧ y = .int .i64 k ∧ k ≤ 16 ∧ Hid (Below w.heap.size w wr)) (fun _ y _ => 16 - (intOf y).toNat)
  case atStart => exact ⟨0, rfl, rfl, Nat.zero_le _, Below.refl _ _⟩
  case round =>
    obtain ⟨k, rfl, rfl, hk, HB⟩ := hrel
    by_cases hlt : k < 16
    · obtain ⟨e, he, hx⟩ := HI.out.at hlt
      have hix := fun (w : World) => run_index_pl he HI.out.ln w
      rw [HA.out] at hix
      have hlt' : (k : Int) < 16 := by omega
      have HB1 := Lib.hid (show Below wr.heap.size wr (wr.alloc (.cells #[.pointer (some ⟨e.sb, 0, none⟩), .pointer (adO e.pa), .pointer (adO e.ca)] 81)) from (Below.refl _ _).alloc (Nat.le_refl _) _)
      have HB2 := Lib.hid (HB.out.trans (HB1.out.mono HB.out.size))
      have HC := Lib.hid (schosen_any ((HI.out.below HB2.out).all k e he).sl)
      have hst := nextAt_step hx
      have hnk := nextAt_le x.L k
      obtain ⟨n, hn⟩ : ∃ y, (e.x.s.ch.getD []).length = y := ⟨_, rfl⟩
      rw [hn] at HC
      obtain ⟨c, hc⟩ : ∃ y, e.x.s.ch.isSome = y := ⟨_, rfl⟩
      rw [hc] at HC hst
      obtain ⟨m, hm⟩ : ∃ y, nextAt x.L k = y := ⟨_, rfl⟩
      rw [hm] at hst hnk ⊢
      obtain ⟨sb, hsb⟩ : ∃ y, e.sb = y := ⟨_, rfl⟩
      obtain ⟨pa, hpa⟩ : ∃ y, adO e.pa = y := ⟨_, rfl⟩
      obtain ⟨ca, hca⟩ : ∃ y, adO e.ca = y := ⟨_, rfl⟩
      rw [hsb, hpa, hca] at HC hix HB1 HB2
      clear he hx hn hc hm hsb hpa hca HB1
      cases c with
      | true =>
        have HS := Lib.hid (show nextAt x.L (k + 1) = k + 2 from hst)
        clear hst
        go_wp2_with fail
        refine HC.out.mono ?_
        rintro e2 w2 ⟨u, rfl, ho, hb⟩
        obtain ⟨A5, d5, rfl, -, -⟩ := own_slice ho
        have HB3 := Lib.hid (HB2.out.trans (hb.mono HB2.out.size))
        clear ho hb HC
        go_wp2_with fail
        go_roundw
        case rel => exact ⟨k + 1, by rw [HS.out]; go_num, by go_num, by omega, HB3⟩
        case measure => simp [intOf]; omega
      | false =>
        have HS := Lib.hid (show nextAt x.L (k + 1) = m from hst)
        clear hst
        go_wp2_with fail
        refine HC.out.mono ?_
        rintro e2 w2 ⟨u, rfl, ho, hb⟩
        obtain ⟨A5, d5, rfl, -, -⟩ := own_slice ho
        have HB3 := Lib.hid (HB2.out.trans (hb.mono HB2.out.size))
        clear ho hb HC
        go_wp2_with fail
        go_roundw
        case rel => exact ⟨k + 1, by rw [HS.out], by go_num, by omega, HB3⟩
        case measure => simp [intOf]; omega
    · obtain rfl : k = 16 := by omega
      obtain ⟨m, hm⟩ : ∃ y, nextAt x.L 16 = y := ⟨_, rfl⟩
      have HM := Lib.hid hm
      rw [hm]
      clear hm
      go_wp2_with fail
      go_ret
      exact ⟨by rw [HM.out]; rfl, HB.out⟩
end Go.Proofs.Ytpdmflhbmimhgaa
namespace Go.Proofs.Ytpdmflhbmimhgaa
open Go.RowKit
set_option linter.unusedSimpArgs false

def Px.reset (n : Nat) (p : Px) : Px := ⟨Sx.new n, p.pr, p.co⟩
def resL (n : Nat) (L : List Px) (k : Nat) : List Px := (L.take k).map (Px.reset n) ++ L.drop k
theorem resL_set {n k : Nat} {L : List Px} {p : Px} (h : L[k]? = some p) : (resL n L k).set k (p.reset n) = resL n L (k + 1) := by
  have hk := (List.getElem?_eq_some_iff.1 h).1
  unfold resL
  rw [List.set_append_right _ _ (by simp; omega), List.length_map, List.length_take, Nat.min_eq_left (by omega), Nat.sub_self, List.take_add_one, h, List.drop_eq_getElem_cons hk, List.set_cons_zero]
  simp
theorem resL_at {n k : Nat} {L : List Px} (hk : k < L.length) : (resL n L k)[k]? = L[k]? := by
  unfold resL
  rw [List.getElem?_append_right (by simp; omega), List.length_map, List.length_take, Nat.min_eq_left (by omega), Nat.sub_self, List.getElem?_drop]
  rfl
def Ix.gone (x : Ix) (n : Nat) (v : Int) (k : Nat) : Ix := ⟨x.f, x.num, x.ah, v, false, resL n x.L k⟩
theorem IPost.at {w w' : World} {ib k : Nat} {E : List Pe} {x : Ix} {e : Pe} (h : IPost w ib E x w') (hk : E[k]? = some e) : ∃ E' e', In w' ib x E' ∧ (∀ g, IZ ib E' g → IZ ib E g ∨ w.heap.size ≤ g) ∧ Turn (IZ ib E) w w' ∧ E'.map Pe.sb = E.map Pe.sb ∧ E'[k]? = some e' ∧ e'.sb = e.sb := by
  obtain ⟨E', h1, h2, h3, h4⟩ := h
  have := congrArg (fun l => l[k]?) h4
  simp only [List.getElem?_map, hk, Option.map_some] at this
  cases hq : E'[k]? with
  | none => rw [hq] at this; cases this
  | some e' =>
    rw [hq] at this
    exact ⟨E', e', h1, h2, h3, h4, hq, by simpa using this⟩
theorem ileave_no {w : World} {ib : Nat} {x : Ix} {E : List Pe} (h : In w ib x E) {v : Int} (hv : v ≤ x.vw ∨ 12 < v) :
    Calls Try.prog 20 #[.pointer (some ⟨ib, 0, none⟩), .int .i64 v] w fun e w' => e = .returned (.bool false) ∧ w = w' := by
  obtain ⟨-, -, c2, -⟩ := h.hd
  obtain ⟨u, hu⟩ : ∃ y, x.vw = y := ⟨_, rfl⟩
  rw [hu] at c2 hv
  clear h hu
  by_cases h1 : v ≤ u
  · have g1 : decide (v ≤ u) = true := decide_eq_true h1
    clear hv h1
    go_enter Try.func20, Try.ntmps20
    go_wp2_with fail
    go_ret
    exact ⟨rfl, rfl⟩
  · have g1 : decide (v ≤ u) = false := decide_eq_false h1
    have g2 : decide (12 < v) = true := decide_eq_true (by omega)
    clear hv h1
    go_enter Try.func20, Try.ntmps20
    go_wp2_with fail
    go_ret
    exact ⟨rfl, rfl⟩
set_option maxRecDepth 100000 in
set_option maxHeartbeats 2000000 in
theorem ileave_in {w : World} {ib : Nat} {x : Ix} {E : List Pe} (h : In w ib x E) {v : Int} (h1 : x.vw < v) (h2 : v ≤ 12) {n : Nat} (hn : (n : Int) = 3 * x.f + 1) :
    Calls Try.prog 20 #[.pointer (some ⟨ib, 0, none⟩), .int .i64 v] w fun e w' => e = .returned (.bool true) ∧ IPost w ib E (x.gone n v 16) w' := by
  obtain ⟨-, -, c2, c3⟩ := h.hd
  have f2 := h.blk.frozen 2
  have f3 := h.blk.frozen 3
  have ht : Turn (fun j => j = ib) w ((w.setCell ⟨ib, 2, none⟩ (.int .i64 v)).setCell ⟨ib, 3, none⟩ (.bool false)) := ((Turn.refl (fun j => j = ib) w).set_ ⟨ib, 2, none⟩ _ rfl).set_ ⟨ib, 3, none⟩ _ rfl
  have hb : Blk ((w.setCell ⟨ib, 2, none⟩ (.int .i64 v)).setCell ⟨ib, 3, none⟩ (.bool false)) ib 84 (inCells (x.gone n v 0) E) := (h.blk.set_ 2 _).set_ 3 _
  have hvw := h.vw
  have hp := h.head (x' := x.gone n v 0) rfl h.num h.ah (by show 0 ≤ v ∧ v ≤ 12; omega) rfl ht hb
  have HP0 := Lib.hid hp
  have HRg := Lib.hid (show ((w.setCell ⟨ib, 2, none⟩ (.int .i64 v)).setCell ⟨ib, 3, none⟩ (.bool false)).rangeAt ib 4 (peCells E) from by
    intro j u hj
    rw [hb.cell]
    unfold inCells
    rw [List.getElem?_toArray, List.getElem?_append_right (by show 4 ≤ _; omega), show 4 + j - (hdI (x.gone n v 0)).length = j by show _ - 4 = _; omega]
    exact hj)
  have HL := Lib.hid (show some 48 = some (peCells E).length by rw [peCells_len, h.ln])
  have HE := Lib.hid (And.intro h.ln h.len)
  have HIs := Lib.hid h.is
  have HNf := Lib.hid hn
  obtain ⟨vw, hvw⟩ : ∃ y, x.vw = y := ⟨_, rfl⟩
  obtain ⟨on, hon⟩ : ∃ y, x.on = y := ⟨_, rfl⟩
  rw [hvw] at c2 h1
  rw [hon] at c3
  have g1 : decide (v ≤ vw) = false := decide_eq_false (by omega)
  have g2 : decide (12 < v) = false := decide_eq_false (by omega)
  obtain ⟨ar, har⟩ : ∃ y, (peCells E).toArray = y := ⟨_, rfl⟩
  have HA := Lib.hid har
  clear h har h1 h2 hn hvw hon hp ht hb
  go_enter Try.func20, Try.ntmps20
  go_wp2_with (refine wpList_load_mid rfl 82 _ rfl ib 4 rfl (peCells E) _ HRg.out Try.underlying82 rfl (info_places.trans HL.out) ?_)
  rw [HA.out]
  go_loopw [28] (fun y wr => ∃ k : Nat, y = .int .i64 k ∧ k ≤ 16 ∧ Hid (IPost w ib E (x.gone n v k) wr)) (fun y _ => 16 - (intOf y).toNat)
  case atStart => exact ⟨0, rfl, Nat.zero_le _, HP0⟩
  case round =>
    obtain ⟨k, rfl, hk, HP⟩ := hrel
    by_cases hlt : k < 16
    · have hke : k < E.length := by rw [HE.out.1]; exact hlt
      obtain ⟨e, he⟩ : ∃ e, E[k]? = some e := ⟨_, List.getElem?_eq_getElem hke⟩
      have hix := fun (w : World) => run_index_pl he HE.out.1 w
      rw [HA.out] at hix
      have hlt' : (k : Int) < 16 := by omega
      have HB1 := Lib.hid (show Below wr.heap.size wr (wr.alloc (.cells #[.pointer (some ⟨e.sb, 0, none⟩), .pointer (adO e.pa), .pointer (adO e.ca)] 81)) from (Below.refl _ _).alloc (Nat.le_refl _) _)
      obtain ⟨E', e', h1, h2, h3, h4, h5, h6⟩ := (HP.out.below HB1.out).at he
      have hsl := (h1.all k e' h5).sl
      have hn1 : e'.x.s.P.length = n := by have := hsl.n1; have := HNf.out; exact Int.ofNat_inj.1 (by rw [hsl.n1, HNf.out]; rfl)
      have HC := Lib.hid (sreset_any hsl hn1)
      have HX := Lib.hid (fun (w2 : World) (hp : SlPost _ (fun _ => True) e'.sb e'.v1 e'.v2 (x.gone n v k).f (Sx.new n) w2) => show IPost w ib E (x.gone n v (k + 1)) w2 from by
        have hq := h1.slot h5 hp
        have hr := IPost.trans h2 h3 h4 hq
        have hxk : (x.gone n v k).L[k]? = x.L[k]? := resL_at (by rw [HE.out.2]; exact hlt)
        have hxe : (x.gone n v k).L[k]? = some e'.x := by rw [← h1.is, List.getElem?_map, h5]; rfl
        have : (x.gone n v k).put k ⟨Sx.new n, e'.x.pr, e'.x.co⟩ = x.gone n v (k + 1) := by
          unfold Ix.put Ix.gone
          have := resL_set (n := n) (k := k) (L := x.L) (p := e'.x) (by rw [← hxk]; exact hxe)
          simp only [← this]
          rfl
        rw [this] at hr
        exact hr)
      rw [h6] at HC
      obtain ⟨sb, hsb⟩ : ∃ y, e.sb = y := ⟨_, rfl⟩
      obtain ⟨pa, hpa⟩ : ∃ y, adO e.pa = y := ⟨_, rfl⟩
      obtain ⟨ca, hca⟩ : ∃ y, adO e.ca = y := ⟨_, rfl⟩
      rw [hsb, hpa, hca] at HC hix HX
      rw [h6, hsb] at HX
      clear he hsb hpa hca HB1 h1 h2 h3 h4 h5 h6 hsl hn1 hke
      go_wp2_with fail
      refine HC.out.mono ?_
      rintro e2 w2 ⟨rfl, hp⟩
      have HN := Lib.hid (HX.out w2 hp)
      clear hp HC HX
      go_wp2_with fail
      go_roundw
      case rel => exact ⟨k + 1, by go_num, by omega, HN⟩
      case measure => simp [intOf]; omega
    · obtain rfl : k = 16 := by omega
      go_wp2_with fail
      go_ret
      exact ⟨rfl, HP.out⟩
end Go.Proofs.Ytpdmflhbmimhgaa
namespace Go.Proofs.Ytpdmflhbmimhgaa
open Go.RowKit
set_option linter.unusedSimpArgs false

/-- A row of certificates of the call's own. -/
def CtRow (w : World) (b : Nat) (v : Value) (l : List Ct) : Prop := ∃ M : List Cs, M.map Cs.c = l ∧ w.ownsRow b 31 5 v M.length (M.flatMap Cs.cells) ∧ ∀ y ∈ M, CtNew w b y.c y.A1 y.c1 y.A2 y.c2
theorem CtRow.below {w w' : World} {b : Nat} {v : Value} {l : List Ct} (h : CtRow w b v l) (hb : Below w.heap.size w w') : CtRow w' b v l := by
  obtain ⟨M, h1, h2, h3⟩ := h
  exact ⟨M, h1, below_own h2 hb (Nat.le_refl _), fun y hy => (h3 y hy).below hb⟩
theorem csCells_one (M : List Cs) : ∀ u ∈ M.flatMap Cs.cells, u.oneCell' = true := by
  intro u hu
  obtain ⟨v, _, hv⟩ := List.mem_flatMap.1 hu
  simp [Cs.cells] at hv
  rcases hv with rfl | rfl | rfl | rfl | rfl <;> rfl
theorem CtRow.hasCerts {w : World} {b n c : Nat} {A : Option Addr} {l : List Ct} (h : CtRow w b (.slice A n c) l) (hn : l.length = n) : HasCerts w w.heap.size A l := by
  obtain ⟨M, h1, h2, h3⟩ := h
  have hM : M.length = n := by rw [← hn, ← h1, List.length_map]
  rw [hM] at h2
  exact ⟨M, h1, has_rows h2, fun y hy => ⟨has_rows (h3 y hy).bt, has_rows (h3 y hy).vs⟩⟩
def certsL (L : List Px) : List Ct := L.filterMap Px.pr
structure CzSt (w : World) (L : List Px) (k : Nat) (v : Value) (wr : World) : Prop where
  low : Below w.heap.size w wr
  row : CtRow wr w.heap.size v (certsL (L.take k))
theorem CzSt.below {w wr w' : World} {L : List Px} {k : Nat} {v : Value} (h : CzSt w L k v wr) (hb : Below wr.heap.size wr w') : CzSt w L k v w' := ⟨h.low.trans (hb.mono h.low.size), h.row.below hb⟩
theorem certsL_no {L : List Px} {k : Nat} {p : Px} (h : L[k]? = some p) (hp : p.pr = none) : certsL (L.take (k + 1)) = certsL (L.take k) := by
  unfold certsL
  rw [List.take_add_one, h, List.filterMap_append]
  simp [hp]
theorem certsL_yes {L : List Px} {k : Nat} {p : Px} {c : Ct} (h : L[k]? = some p) (hp : p.pr = some c) : certsL (L.take (k + 1)) = certsL (L.take k) ++ [c] := by
  unfold certsL
  rw [List.take_add_one, h, List.filterMap_append]
  simp [hp]
theorem certsL_le (L : List Px) (k : Nat) : (certsL (L.take k)).length ≤ k := by
  unfold certsL
  have h1 := List.length_filterMap_le Px.pr (L.take k)
  rw [List.length_take] at h1
  omega
set_option maxRecDepth 100000 in
set_option maxHeartbeats 4000000 in
theorem icerts_any {w : World} {ib : Nat} {x : Ix} {E : List Pe} (h : In w ib x E) :
    Calls Try.prog 24 #[.pointer (some ⟨ib, 0, none⟩)] w fun e w' => ∃ v, e = .returned v ∧ CtRow w' w.heap.size v (certsL x.L) ∧ Below w.heap.size w w' := by
  have HI := Lib.hid h
  have HR := Lib.hid h.range
  have HL := Lib.hid (show some 48 = some (peCells E).length by rw [peCells_len, h.ln])
  obtain ⟨ar, har⟩ : ∃ y, (peCells E).toArray = y := ⟨_, rfl⟩
  have HA := Lib.hid har
  have H16 := Lib.hid h.len
  obtain ⟨i0, hi0, hx0, hx1, hx2⟩ := info_parts info_cert
  clear h har
  go_enter Try.func24, Try.ntmps24
  go_wp2_with (refine wpList_load_mid rfl 82 _ rfl ib 4 rfl (peCells E) _ HR.out Try.underlying82 rfl (info_places.trans HL.out) ?_)
  rw [HA.out]
  go_loopw [3, 10] (fun v y wr => ∃ k : Nat, y = .int .i64 k ∧ k ≤ 16 ∧ Hid (CzSt w x.L k v wr)) (fun _ y _ => 16 - (intOf y).toNat)
  case atStart => exact ⟨0, rfl, Nat.zero_le _, Below.refl _ _, [], rfl, World.ownsRow_nil _ _ _ _, by simp⟩
  case round =>
    obtain ⟨k, rfl, hk, HT⟩ := hrel
    by_cases hlt : k < 16
    · obtain ⟨e, he, hx⟩ := HI.out.at hlt
      have hix := fun (w : World) => run_index_pl he HI.out.ln w
      rw [HA.out] at hix
      have hlt' : (k : Int) < 16 := by omega
      have HB1 := Lib.hid (show Below wr.heap.size wr (wr.alloc (.cells #[.pointer (some ⟨e.sb, 0, none⟩), .pointer (adO e.pa), .pointer (adO e.ca)] 81)) from (Below.refl _ _).alloc (Nat.le_refl _) _)
      have HT1 := Lib.hid (HT.out.below HB1.out)
      have hct := ((HI.out.below HT1.out.low).all k e he).pr
      obtain ⟨ca, hca⟩ : ∃ y, adO e.ca = y := ⟨_, rfl⟩
      rw [hca] at hix HB1 HT1 hct
      cases hpr : e.x.pr with
      | none =>
        rw [hpr] at hct
        have hpa : e.pa = none := by
          cases hpa : e.pa with
          | none => rfl
          | some g => rw [hpa] at hct; cases hct
        rw [hpa] at hix HB1 HT1
        change ∀ w, Sem.run _ _ _ = Result.ok (Value.agg #[_, Value.pointer none, _]) _ at hix
        have HS := Lib.hid (certsL_no hx hpr)
        obtain ⟨sb, hsb⟩ : ∃ y, e.sb = y := ⟨_, rfl⟩
        rw [hsb] at hix HT1
        clear he hx hsb hca HB1 hpr hct hpa
        go_wp2_with fail
        go_roundw
        case rel => exact ⟨k + 1, by go_num, by omega, HT1.out.low, by rw [HS.out]; exact HT1.out.row⟩
        case measure => simp [intOf]; omega
      | some c =>
        rw [hpr] at hct
        obtain ⟨g, A0, d0, B0, d1, hpa, hct⟩ := hct.some
        have HC := Lib.hid (icopied_any hct.blk (has_rows hct.bt) (has_rows hct.vs) (Nat.le_refl _) hct.lb hct.lv)
        have HS := Lib.hid (certsL_yes hx hpr)
        rw [hpa] at hix HB1 HT1 HC
        change ∀ w, Sem.run _ _ _ = Result.ok (Value.agg #[_, Value.pointer (some ⟨g, 0, none⟩), _]) _ at hix
        obtain ⟨n1, hn1⟩ : ∃ y, c.bt.length = y := ⟨_, rfl⟩
        obtain ⟨n2, hn2⟩ : ∃ y, c.vs.length = y := ⟨_, rfl⟩
        obtain ⟨vw, hvw⟩ : ∃ y, c.vw = y := ⟨_, rfl⟩
        obtain ⟨ci, hci⟩ : ∃ y, c.ins = y := ⟨_, rfl⟩
        obtain ⟨cq, hcq⟩ : ∃ y, c.sq = y := ⟨_, rfl⟩
        have HN := Lib.hid (And.intro hn1 (And.intro hn2 (And.intro hvw (And.intro hci hcq))))
        rw [hn1, hn2, hvw, hci, hcq] at HC
        obtain ⟨sb, hsb⟩ : ∃ y, e.sb = y := ⟨_, rfl⟩
        rw [hsb] at hix HT1 HC
        clear he hx hsb hca HB1 hpr hct hpa hn1 hn2 hvw hci hcq
        go_wp2_with fail
        refine HC.out.mono ?_
        rintro e3 w4 ⟨A3, d3, A4, d4, rfl, hn4, hb4⟩
        have HT4 := Lib.hid (HT1.out.below hb4)
        have HN4 := Lib.hid hn4
        have HB4 := Lib.hid hb4
        clear hn4 hb4 HC
        obtain ⟨M, hM1, hM2, hM3⟩ := HT4.out.row
        have HM1 := Lib.hid hM1
        have HM3 := Lib.hid hM3
        have hm16 : M.length ≤ 16 := by
          have := certsL_le x.L k
          rw [← hM1, List.length_map] at this
          omega
        have HBv := Lib.hid (show Below w4.heap.size w4 (w4.alloc (.cells #[.int .i64 vw, .int .i64 ci, .int .i64 cq, .slice A3 n1 d3, .slice A4 n2 d4] 31)) from (Below.refl _ _).alloc (Nat.le_refl _) _)
        have HOv := Lib.hid (below_own hM2 HBv.out (Nat.le_refl _))
        have HNv := Lib.hid (show Has (w4.alloc (.cells #[.int .i64 vw, .int .i64 ci, .int .i64 cq, .slice A3 n1 d3, .slice A4 n2 d4] 31)) (w4.heap.size + 1) (some ⟨w4.heap.size, 0, none⟩) [.int .i64 vw, .int .i64 ci, .int .i64 cq, .slice A3 n1 d3, .slice A4 n2 d4] from Has.fresh w4 #[.int .i64 vw, .int .i64 ci, .int .i64 cq, .slice A3 n1 d3, .slice A4 n2 d4] 31)
        have HOne := Lib.hid (show ∀ u ∈ [Value.int .i64 vw, .int .i64 ci, .int .i64 cq, .slice A3 n1 d3, .slice A4 n2 d4], u.oneCell' = true from by intro u hu; simp at hu; rcases hu with rfl | rfl | rfl | rfl | rfl <;> rfl)
        have HL1 := Lib.hid (show M.length + 1 ≤ maxLen by unfold maxLen; omega)
        have HL2 := Lib.hid (show (M.length + 1) * 72 ≤ 140737488355328 by omega)
        have HL3 := Lib.hid (show w.heap.size ≤ (w4.alloc (.cells #[.int .i64 vw, .int .i64 ci, .int .i64 cq, .slice A3 n1 d3, .slice A4 n2 d4] 31)).heap.size from Nat.le_trans HT4.out.low.size HBv.out.size)
        clear hM1 hM2 hM3 hm16
        go_wp2_with (at_builtin; refine wpList_apps rfl _ _ 50 rfl w.heap.size 31 i0 _ 5 72 Try.underlying50 hi0 hx0 hx1 hx2 rfl (by decide) _ _ _ rfl HOv.out _ (some ⟨w4.heap.size, 0, none⟩) 1 1 [.int .i64 vw, .int .i64 ci, .int .i64 cq, .slice A3 n1 d3, .slice A4 n2 d4] rfl rfl HNv.out (fun h => nomatch h) HOne.out HL1.out HL2.out HL3.out ?_)
        intro u2 w10 ho hg _
        have ht := (Turn.refl _ _).grown hg (fun _ hk _ => hk)
        have hrow : ∀ {b m n : Nat} {t : TypeId} {u : Value} {xs : List Value}, w4.ownsRow b t m u n xs → t ≠ 31 → w10.ownsRow b t m u n xs := fun ho' hne =>
          ht.own (below_own ho' HBv.out (Nat.le_refl _)) (fun j hj e0 => (own_apart (below_own ho' HBv.out (Nat.le_refl _)) HOv.out hne).elim (fun e1 => by rw [e1] at hj; cases hj) (fun e1 => e1 (hj.trans e0.symm)))
        have hnew : ∀ {b : Nat} {y : Cs}, CtNew w4 b y.c y.A1 y.c1 y.A2 y.c2 → CtNew w10 b y.c y.A1 y.c1 y.A2 y.c2 := fun h => ⟨hrow h.bt (by decide), hrow h.vs (by decide)⟩
        have HT10 := Lib.hid (show CzSt w x.L (k + 1) u2 w10 from by
          refine ⟨(HT4.out.low.trans (HBv.out.mono HT4.out.low.size)).grown hg HL3.out (fun k hk => (HOv.out.lt k hk).1), M ++ [⟨c, A3, d3, A4, d4⟩], ?_, ?_, ?_⟩
          · rw [HS.out, List.map_append, HM1.out]; rfl
          · rw [List.length_append, List.flatMap_append]
            show w10.ownsRow _ _ _ _ (M.length + 1) (M.flatMap Cs.cells ++ [.int .i64 c.vw, .int .i64 c.ins, .int .i64 c.sq, .slice A3 c.bt.length d3, .slice A4 c.vs.length d4])
            rw [HN.out.1, HN.out.2.1, HN.out.2.2.1, HN.out.2.2.2.1, HN.out.2.2.2.2]
            exact ho
          · intro y hy
            rcases List.mem_append.1 hy with hy | hy
            · exact hnew (HM3.out y hy)
            · obtain rfl : y = _ := by simpa using hy
              refine hnew ⟨?_, ?_⟩
              · exact own_base HN4.out.bt HT1.out.low.size
              · exact own_base HN4.out.vs HT1.out.low.size)
        obtain ⟨A2, c2, rfl, -, -⟩ := own_slice ho
        clear ho hg ht hrow hnew
        go_wp2_with fail
        go_roundw
        case rel => exact ⟨k + 1, by go_num, by omega, HT10⟩
        case measure => simp [intOf]; omega
    · obtain rfl : k = 16 := by omega
      go_wp2_with fail
      go_ret
      refine ⟨_, rfl, ?_, HT.out.low⟩
      have := HT.out.row
      rw [List.take_of_length_le (by rw [H16.out]; exact Nat.le_refl _)] at this
      exact this
end Go.Proofs.Ytpdmflhbmimhgaa
