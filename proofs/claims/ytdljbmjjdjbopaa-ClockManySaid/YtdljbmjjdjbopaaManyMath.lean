/- ClockMany: many timers, those that were due marked in a list. -/
import Derived.Test.YtdljbmjjdjbopaaClockOne
import Derived.Laws.MakeOwn
namespace Go.Proofs.Ytdljbmjjdjbopaa
open Go.RowKit Go.Maps

/-- The time of the timer i. -/
def tk (zs : List Int) (i : Nat) : Int := 1 + (zs.getD i 0) % 40
theorem tk_in (zs : List Int) (i : Nat) : 1 ≤ tk zs i ∧ tk zs i ≤ 40 := by
  have h1 := Int.emod_nonneg (zs.getD i 0) (show (40 : Int) ≠ 0 by omega)
  have h2 := Int.emod_lt_of_pos (zs.getD i 0) (show (0 : Int) < 40 by omega)
  unfold tk
  omega
/-- The timers of those ids that aren't marked. -/
def St (zs : List Int) (bs : List Bool) : Ts := fun p => if 0 ≤ p ∧ bs[p.toNat]? = some false then some (tk zs p.toNat) else none
theorem St_some {zs : List Int} {bs : List Bool} {p f : Int} (h : St zs bs p = some f) : ∃ i : Nat, p = i ∧ bs[i]? = some false ∧ f = tk zs i := by
  unfold St at h
  by_cases e : 0 ≤ p ∧ bs[p.toNat]? = some false
  · rw [if_pos e] at h
    cases h
    exact ⟨p.toNat, by omega, e.2, rfl⟩
  · rw [if_neg e] at h
    cases h
theorem St_nat (zs : List Int) (bs : List Bool) (i : Nat) : St zs bs (i : Int) = if bs[i]? = some false then some (tk zs i) else none := by
  unfold St
  simp
theorem St_new (zs : List Int) : Ts.new = St zs [] := by
  funext p
  simp [St, Ts.new]
theorem St_more (zs : List Int) (k : Nat) : (St zs (List.replicate k false)).set k (0 + tk zs k) = St zs (List.replicate (k + 1) false) := by
  funext p
  by_cases e : p = k
  · subst e
    rw [Ts.set_same, St_nat, List.getElem?_replicate, if_pos (Nat.lt_succ_self k), if_pos rfl, Int.zero_add]
  · rw [Ts.set_other _ e]
    unfold St
    by_cases hp : 0 ≤ p
    · obtain ⟨i, rfl⟩ := Int.eq_ofNat_of_zero_le hp
      have hi : i ≠ k := fun h => e (by rw [h])
      simp only [Int.toNat_natCast, List.getElem?_replicate]
      by_cases h1 : i < k
      · simp [h1, Nat.lt_succ_of_lt h1]
      · simp [h1, show ¬ i < k + 1 by omega]
    · simp [hp]
def mark (bs : List Bool) (l : List Int) : List Bool := bs.mapIdx fun i b => b || decide ((i : Int) ∈ l)
theorem mark_len (bs : List Bool) (l : List Int) : (mark bs l).length = bs.length := by simp [mark]
theorem mark_get (bs : List Bool) (l : List Int) (i : Nat) : (mark bs l)[i]? = (bs[i]?).map (fun b => b || decide ((i : Int) ∈ l)) := by simp [mark]
theorem mark_nil (bs : List Bool) : mark bs [] = bs := by
  apply List.ext_getElem?
  intro i
  rw [mark_get]
  simp
theorem St_strip (zs : List Int) (bs : List Bool) (l : List Int) : (St zs bs).strip l = St zs (mark bs l) := by
  funext p
  unfold Ts.strip
  by_cases hp : 0 ≤ p
  · obtain ⟨i, rfl⟩ := Int.eq_ofNat_of_zero_le hp
    rw [St_nat, St_nat, mark_get]
    by_cases e : (i : Int) ∈ l
    · rw [if_pos e]
      cases bs[i]? <;> simp [e]
    · rw [if_neg e]
      cases bs[i]? <;> simp [e]
  · have h0 : ∀ b, St zs b p = none := fun b => if_neg (fun h => hp h.1)
    rw [h0, h0]
    split <;> rfl
theorem mark_next {bs : List Bool} {l : List Int} {k i : Nat} (h : l[k]? = some (i : Int)) (hi : i < bs.length) : (mark bs (l.take k)).set i true = mark bs (l.take (k + 1)) := by
  apply List.ext_getElem?
  intro j
  rw [List.take_add_one, h, mark_get]
  by_cases e : j = i
  · subst e
    rw [List.getElem?_set_self (by rw [mark_len]; exact hi), List.getElem?_eq_getElem hi]
    simp
  · rw [List.getElem?_set_ne (fun h => e h.symm), mark_get]
    have : ¬ ((j : Int) = (i : Int)) := by omega
    simp [this]
theorem rising_take {l : List Int} (h : l.Pairwise (· < ·)) {k : Nat} {p : Int} (hk : l[k]? = some p) : p ∉ l.take k := fun hm => by
  obtain ⟨j, hj, e⟩ := List.mem_take_iff_getElem.1 hm
  have hkl : k < l.length := by
    rcases Nat.lt_or_ge k l.length with h1 | h1
    · exact h1
    · rw [List.getElem?_eq_none h1] at hk; cases hk
  rw [List.getElem?_eq_getElem hkl] at hk
  injection hk with hk
  have h1 := List.pairwise_iff_getElem.1 h j k (by omega) hkl (by omega)
  omega
theorem due_prev {S : Ts} {t : Int} {l : List Int} (h : DueIs S t l) {k : Nat} {p q : Int} (hp : l[k + 1]? = some p) (hq : l[k]? = some q) : q < p := by
  obtain ⟨h1, e1⟩ := List.getElem?_eq_some_iff.1 hp
  obtain ⟨h2, e2⟩ := List.getElem?_eq_some_iff.1 hq
  have := List.pairwise_iff_getElem.1 h.up k (k + 1) h2 h1 (by omega)
  omega
theorem due_at {zs : List Int} {bs : List Bool} {t : Int} {l : List Int} (h : DueIs (St zs bs) t l) {k : Nat} {p : Int} (hk : l[k]? = some p) :
    ∃ i : Nat, p = i ∧ i < bs.length ∧ (mark bs (l.take k))[i]? = some false ∧ tk zs i ≤ t := by
  obtain ⟨f, hf, hft⟩ := (h.mem p).1 (List.mem_of_getElem? hk)
  obtain ⟨i, rfl, hb, rfl⟩ := St_some hf
  refine ⟨i, rfl, (List.getElem?_eq_some_iff.1 hb).1, ?_, hft⟩
  rw [mark_get, hb]
  simpa using rising_take h.up hk
theorem all_seen {zs : List Int} {bs : List Bool} {t : Int} {l : List Int} (h : DueIs (St zs bs) t l) {i : Nat} (hi : i < bs.length) (ht : tk zs i ≤ t) : (mark bs l)[i]? = some true := by
  rw [mark_get, List.getElem?_eq_getElem hi]
  cases hb : bs[i] with
  | true => simp
  | false =>
    have : (i : Int) ∈ l := (h.mem i).2 ⟨tk zs i, by rw [St_nat, List.getElem?_eq_getElem hi, hb, if_pos rfl], ht⟩
    simp [this]
theorem none_left {zs : List Int} {bs : List Bool} {t : Int} {l : List Int} (h : DueIs (St zs bs) t l) (ha : ∀ i, i < bs.length → bs[i]? = some true) : l = [] := by
  refine List.eq_nil_iff_forall_not_mem.2 fun p hp => ?_
  obtain ⟨f, hf, _⟩ := (h.mem p).1 hp
  obtain ⟨i, _, hb, _⟩ := St_some hf
  rw [ha i (List.getElem?_eq_some_iff.1 hb).1] at hb
  cases hb
def bcs (l : List Bool) : Array Value := (l.map Value.bool).toArray
theorem bcs_get {l : List Bool} {k : Nat} {b : Bool} (h : l[k]? = some b) : (bcs l)[k]? = some (.bool b) := by simp [bcs, h]
theorem bcs_set (l : List Bool) (k : Nat) (b : Bool) : (bcs l).setIfInBounds k (.bool b) = bcs (l.set k b) := by simp [bcs, List.map_set]
theorem made_off (n : Nat) : madeCells #[.bool false] n = bcs (List.replicate n false) := by
  apply Array.ext_getElem?
  intro j
  by_cases hj : j < n
  · simp [madeCells, bcs, hj, Nat.mod_one]
  · rw [Array.getElem?_eq_none (by simp [madeCells]; omega), Array.getElem?_eq_none (by simp [bcs]; omega)]
theorem info_bool9 : (Try.prog.info? 4).map (fun i => (i.zero, i.size, i.bytes)) = some (some (.bool false), 1, 1) := by kernel_rfl
theorem run_make_bools (n : Nat) (hn : n ≤ 70000) (w : World) :
    (Instr.makeSlice 28 (.int .i64 (n : Int)) (.int .i64 (n : Int))).run Try.prog w = .ok (.slice (some ⟨w.heap.size, 0, none⟩) n n) (w.alloc (.cells (bcs (List.replicate n false)) 4)) := by
  obtain ⟨i0, hi0, hz0, hz1, hz2⟩ := info_parts info_bool9
  have hr := run_make (P := Try.prog) w 28 4 i0 _ Try.underlying28 hi0 hz0 .i64 .i64 n n (by omega) (by omega) (by rw [hz2]; omega) (by omega)
  simp only [Int.toNat_natCast] at hr
  rw [hz1, Nat.mul_one] at hr
  rw [← made_off]
  exact hr
/-- The clock and the marks. -/
structure Mn (w : World) (cb bm gs : Nat) (zs : List Int) (t : Int) (bs ds : List Bool) (wr : World) : Prop where
  cs : Cs w cb bm t zs.length (St zs bs) wr
  seen : Blk wr gs 4 (bcs ds)
  len : bs.length = zs.length
  lend : ds.length = zs.length
  gsz : w.heap.size ≤ gs
  gc : gs ≠ cb
  gb : gs ≠ bm
section
variable {w wr : World} {cb bm gs : Nat} {zs : List Int} {t : Int} {bs ds : List Bool}
theorem Mn.drewN (h : Mn w cb bm gs zs t bs ds wr) (n : Nat) : Mn w cb bm gs zs t bs ds (wr.drewN n) := ⟨h.cs.drewN n, h.seen.drewN n, h.len, h.lend, h.gsz, h.gc, h.gb⟩
theorem Mn.tick (h : Mn w cb bm gs zs t bs ds wr) (h0 : 0 ≤ t) (h1 : t < 1048576) :
    Calls Try.prog 11 #[.pointer (some ⟨cb, 0, none⟩)] wr fun e w' => e = .returned (.bool true) ∧ Mn w cb bm gs zs (t + 1) bs ds w' :=
  (tick_any h.cs.ck h0 h1).mono fun _ _ ⟨he, hc, ht⟩ => ⟨he, ⟨hc, h.cs.turned ht (fun _ hk => Or.inl hk), h.cs.b0, h.cs.b1⟩, ht.blk h.seen h.gc, h.len, h.lend, h.gsz, h.gc, h.gb⟩
theorem Mn.due (h : Mn w cb bm gs zs t bs ds wr) (hN : zs.length ≤ 1000000) :
    Calls Try.prog 12 #[.pointer (some ⟨cb, 0, none⟩)] wr fun e w' => ∃ A c l, e = .returned (.slice A l.length c) ∧ w'.ownsRow wr.heap.size 3 1 (.slice A l.length c) l.length (ics l) ∧ DueIs (St zs bs) t l ∧ Mn w cb bm gs zs t (mark bs l) ds w' :=
  (due_any h.cs.ck hN).mono fun e w' ⟨v, l, he, ho, hd, hc, ht⟩ => by
    obtain ⟨A, c, rfl, _, _⟩ := own_slice ho
    rw [St_strip] at hc
    exact ⟨A, c, l, he, ho, hd, ⟨hc, h.cs.turned ht (fun _ hk => Or.inr hk), h.cs.b0, h.cs.b1⟩, ht.blk h.seen h.gb, by rw [mark_len]; exact h.len, h.lend, h.gsz, h.gc, h.gb⟩
theorem Mn.see (h : Mn w cb bm gs zs t bs ds wr) (i : Nat) : Mn w cb bm gs zs t bs (ds.set i true) (wr.setCell ⟨gs, i, none⟩ (.bool true)) := by
  have ht : Turn (fun k => k = gs) wr (wr.setCell ⟨gs, i, none⟩ (.bool true)) := (Turn.refl _ wr).set_ _ _ rfl
  have hb := h.seen.set_ i (.bool true)
  rw [bcs_set] at hb
  exact ⟨⟨h.cs.ck.kept ht (fun e => h.gc e.symm) (fun e => h.gb e.symm), h.cs.low.trans (ht.below h.cs.low.size (fun k hk e => by have := h.gsz; omega)), h.cs.b0, h.cs.b1⟩, hb, h.len, by rw [List.length_set]; exact h.lend, h.gsz, h.gc, h.gb⟩
end
/-- While what Due told is gone through. -/
structure Md (w : World) (cb bm gs : Nat) (zs : List Int) (t : Int) (bs : List Bool) (B : Nat) (A : Option Addr) (c : Nat) (l : List Int) (k : Nat) (wr : World) : Prop where
  mn : Mn w cb bm gs zs t (mark bs l) (mark bs (l.take k)) wr
  row : wr.ownsRow B 3 1 (.slice A l.length c) l.length (ics l)
  low : gs < B
theorem Md.next {w wr : World} {cb bm gs B c k i : Nat} {zs l : List Int} {t : Int} {bs : List Bool} {A : Option Addr} (h : Md w cb bm gs zs t bs B A c l k wr) (hk : l[k]? = some (i : Int)) (hi : i < bs.length) :
    Md w cb bm gs zs t bs B A c l (k + 1) (wr.setCell ⟨gs, i, none⟩ (.bool true)) := by
  refine ⟨by rw [← mark_next hk hi]; exact h.mn.see i, ?_, h.low⟩
  have ht : Turn (fun k => k = gs) wr (wr.setCell ⟨gs, i, none⟩ (.bool true)) := (Turn.refl _ wr).set_ _ _ rfl
  exact ht.own h.row (fun g hg e => by have h1 := (h.row.lt g hg).1; have h2 := h.low; omega)
theorem Md.drewN {w wr : World} {cb bm gs B c k : Nat} {zs l : List Int} {t : Int} {bs : List Bool} {A : Option Addr} (h : Md w cb bm gs zs t bs B A c l k wr) (n : Nat) : Md w cb bm gs zs t bs B A c l k (wr.drewN n) :=
  ⟨h.mn.drewN n, (Turn.own (Z := fun _ => False) ((Turn.refl _ wr).drewN n) h.row (fun _ _ => id)), h.low⟩
end Go.Proofs.Ytdljbmjjdjbopaa
