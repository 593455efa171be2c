/- Package slot: a slot in memory; votes, Voted, Pre, Vote. -/
import Derived.Test.YthlmalangjgioaaSlotMath
import Derived.Test.YthlmalangjgioaaNotary
import Derived.Test.YthlmalangjgioaaRowCells
import Derived.Test.YthlmalangjgioaaMsgClone
import Derived.Test.YthlmalangjgioaaBallotNums
import Derived.Laws.MakeOwn
import Derived.Deep.RegionHeld3
import Derived.Deep.RegionLaw
import Derived.Lib.QuietBelow
namespace Go.Proofs.Ythlmalangjgioaa
open Go.RowKit
set_option linter.unusedSimpArgs false

/-- A vote as it lies. -/
structure Ve where
  o : Vo
  A : Option Addr
  c : Nat
def Ve.val (x : Ve) : Value := .slice x.A x.o.bt.length x.c
def Ve.cells (x : Ve) : List Value := [.bool x.o.ca, .int .i64 x.o.sg, .slice x.A x.o.bt.length x.c]
def veCells (M : List Ve) : List Value := M.flatMap Ve.cells
theorem ve_len (x : Ve) : x.cells.length = 3 := rfl
theorem veCells_len (M : List Ve) : (veCells M).length = M.length * 3 := flatMap_len ve_len M
theorem veCells_one (M : List Ve) : ∀ u ∈ veCells M, u.oneCell' = true := by
  intro u hu
  obtain ⟨v, _, hv⟩ := List.mem_flatMap.1 hu
  simp [Ve.cells] at hv
  rcases hv with rfl | rfl | rfl <;> rfl
theorem veCells_set {M : List Ve} {k : Nat} (h : k < M.length) (x : Ve) : (veCells M).take (k * 3) ++ x.cells ++ (veCells M).drop (k * 3 + 3) = veCells (M.set k x) := by
  induction M generalizing k with
  | nil => simp at h
  | cons y M ih =>
    cases k with
    | zero => rfl
    | succ k =>
      have := ih (k := k) (by simpa using h)
      show (y.cells ++ veCells M).take ((k + 1) * 3) ++ _ ++ (y.cells ++ veCells M).drop ((k + 1) * 3 + 3) = y.cells ++ veCells (M.set k x)
      rw [← this, show (k + 1) * 3 = k * 3 + 3 by omega]
      rfl
theorem info_ve : (Try.prog.info? 70).map (fun i => (i.zero, i.size, i.bytes)) = some (some (.agg #[.bool false, .int .i64 0, .slice none 0 0]), 3, 40) := by kernel_rfl
theorem own_to0 {w : World} {b n s : Nat} {e : TypeId} {v : Value} {xs : List Value} (h : w.ownsRow b e s v n xs) : w.ownsRow 0 e s v n xs := by
  refine ⟨h.1, ?_⟩
  rcases h.2 with h2 | ⟨a, b, d, e1, e2, e3⟩
  · exact Or.inl h2
  · exact Or.inr ⟨a, b, d, e1, Nat.zero_le _, e3⟩
/-- A batch of the call's own, in blocks of Z. -/
structure Bat (w : World) (Z : Nat → Prop) (v : Value) (l : List Rq) : Prop where
  own : w.ownsRow 0 32 6 v l.length (reqCells l)
  low : l.length ≤ 1000000
  zone : ∀ g, v.ownBlock = some g → Z g
/-- A row of votes. -/
structure Row (w : World) (Z : Nat → Prop) (v : Value) (L : List Vo) (M : List Ve) : Prop where
  is : M.map Ve.o = L
  own : w.ownsRow 0 70 3 v L.length (veCells M)
  all : ∀ x ∈ M, Bat w Z x.val x.o.bt
/-- The blocks of a slot, but for the batches. -/
def SZ (sb : Nat) (v1 v2 : Value) (k : Nat) : Prop := k = sb ∨ v1.ownBlock = some k ∨ v2.ownBlock = some k
/-- The slot in block sb, its rows where v1, v2 say, the batches in blocks of Z. -/
structure Sl (w : World) (Z : Nat → Prop) (sb : Nat) (v1 v2 : Value) (f : Int) (s : Sx) : Prop where
  f1 : 1 ≤ f
  f4 : f ≤ 4
  n1 : (s.P.length : Int) = 3 * f + 1
  n2 : (s.C.length : Int) = 3 * f + 1
  ne : v1.ownBlock ≠ v2.ownBlock
  mem : ∃ cv M1 M2, Blk w sb 66 #[.int .i64 f, .bool s.ch.isSome, cv, v1, v2] ∧ Bat w Z cv (s.ch.getD []) ∧ Row w Z v1 s.P M1 ∧ Row w Z v2 s.C M2
section
variable {w w' : World} {Z Z' Y : Nat → Prop} {v v1 v2 : Value} {l : List Rq} {L : List Vo} {M : List Ve} {sb : Nat} {f : Int} {s : Sx}
theorem Bat.kept (h : Bat w Z v l) (ht : Turn Y w w') (hy : ∀ g, v.ownBlock = some g → ¬ Y g) : Bat w' Z v l := ⟨ht.own h.own hy, h.low, h.zone⟩
theorem Bat.mono (h : Bat w Z v l) (hz : ∀ k, Z k → Z' k) : Bat w Z' v l := ⟨h.own, h.low, fun g hg => hz g (h.zone g hg)⟩
theorem Bat.lt (h : Bat w Z v l) : Bat w (fun k => k < w.heap.size) v l := ⟨h.own, h.low, fun g hg => (h.own.lt g hg).2⟩
theorem Bat.nil (w : World) (Z : Nat → Prop) : Bat w Z (.slice none 0 0) [] := ⟨World.ownsRow_nil _ _ _ _, Nat.zero_le _, fun _ h => by cases h⟩
theorem Bat.off {t : TypeId} {k : Nat} {cs : Array Value} (h : Bat w Z v l) (hb : Blk w k t cs) (ht : 32 ≠ t) : v.ownBlock ≠ some k := own_blk_ne h.own hb ht
theorem Bat.has (h : Bat w Z v l) : ∃ A c, v = .slice A l.length c ∧ l.length ≤ c ∧ Has w w.heap.size A (reqCells l) := by
  obtain ⟨A, c, rfl, h1, _⟩ := own_slice h.own
  exact ⟨A, c, rfl, h1, has_rows h.own⟩
theorem Row.len (h : Row w Z v L M) : M.length = L.length := by rw [← h.is, List.length_map]
theorem Row.kept (h : Row w Z v L M) (ht : Turn Y w w') (h1 : ∀ g, v.ownBlock = some g → ¬ Y g) (h2 : ∀ u b, Bat w Z u b → ∀ g, u.ownBlock = some g → ¬ Y g) : Row w' Z v L M :=
  ⟨h.is, ht.own h.own h1, fun x hx => (h.all x hx).kept ht (h2 _ _ (h.all x hx))⟩
theorem Row.mono (h : Row w Z v L M) (hz : ∀ k, Z k → Z' k) : Row w Z' v L M := ⟨h.is, h.own, fun x hx => (h.all x hx).mono hz⟩
theorem Row.at (h : Row w Z v L M) {k : Nat} (hk : k < L.length) : ∃ x, M[k]? = some x ∧ L[k]? = some x.o := by
  have hk' : k < M.length := by rw [h.len]; exact hk
  refine ⟨M[k], List.getElem?_eq_getElem hk', ?_⟩
  rw [← h.is, List.getElem?_map, List.getElem?_eq_getElem hk']
  rfl
theorem Row.nought (w : World) (Z : Nat → Prop) : Row w Z (.slice none 0 0) [] [] := ⟨rfl, World.ownsRow_nil _ _ _ _, fun _ h => by cases h⟩
/-- A vote's cells. -/
theorem Row.cells (h : Row w Z v L M) {k : Nat} (hk : k < L.length) : ∃ g c x, v = .slice (some ⟨g, 0, none⟩) L.length c ∧ M[k]? = some x ∧ L[k]? = some x.o ∧ w.cell? ⟨g, k * 3, none⟩ = some (.bool x.o.ca) ∧ w.cell? ⟨g, k * 3 + 1, none⟩ = some (.int .i64 x.o.sg) ∧ w.cell? ⟨g, k * 3 + 2, none⟩ = some (.slice x.A x.o.bt.length x.c) := by
  obtain ⟨x, h1, h2⟩ := h.at hk
  obtain ⟨A, c, hv, _, _⟩ := own_slice h.own
  have hk' : k < M.length := by rw [h.len]; exact hk
  have hg := h.own
  rw [hv] at hg
  have hh := has_rows hg
  obtain ⟨ad, e, hb, hc⟩ := hh.thing (f := Ve.cells) (s := 3) ve_len (by omega) hk'
  have hx : M[k] = x := by rw [List.getElem?_eq_getElem hk'] at h1; exact Option.some.inj h1
  rw [hx] at hc
  obtain ⟨g, cap, hv2, _, _⟩ := hg.form (by omega)
  injection hv2 with hv2
  subst hv2
  cases e
  refine ⟨g, c, x, hv, h1, h2, ?_, ?_, ?_⟩
  · have := hc 0 _ rfl; rwa [addr_at] at this
  · have := hc 1 _ rfl; rwa [addr_at] at this
  · have := hc 2 _ rfl; rwa [addr_at] at this
theorem Sl.lt (h : Sl w Z sb v1 v2 f s) {k : Nat} (hk : SZ sb v1 v2 k) : k < w.heap.size := by
  obtain ⟨cv, M1, M2, h1, _, h3, h4⟩ := h.mem
  rcases hk with rfl | hk | hk
  · exact h1.lt
  · exact (h3.own.lt k hk).2
  · exact (h4.own.lt k hk).2
/-- No batch lies in a block of a slot. -/
theorem Sl.apart (h : Sl w Z sb v1 v2 f s) {u : Value} (hb : Bat w Z' u l) {g : Nat} (hg : u.ownBlock = some g) : ¬ SZ sb v1 v2 g := by
  obtain ⟨cv, M1, M2, h1, _, h3, h4⟩ := h.mem
  rintro (rfl | hk | hk)
  · exact hb.off h1 (by decide) hg
  · rcases own_apart hb.own h3.own (by decide) with e | e
    · rw [e] at hg; cases hg
    · exact e (hg.trans hk.symm)
  · rcases own_apart hb.own h4.own (by decide) with e | e
    · rw [e] at hg; cases hg
    · exact e (hg.trans hk.symm)
theorem Sl.kept (h : Sl w Z sb v1 v2 f s) (ht : Turn Y w w') (h1 : ∀ k, SZ sb v1 v2 k → ¬ Y k) (h2 : ∀ u b, Bat w Z u b → ∀ g, u.ownBlock = some g → ¬ Y g) : Sl w' Z sb v1 v2 f s := by
  obtain ⟨cv, M1, M2, a, b, c, d⟩ := h.mem
  exact ⟨h.f1, h.f4, h.n1, h.n2, h.ne, cv, M1, M2, ht.blk a (h1 _ (Or.inl rfl)), b.kept ht (h2 _ _ b), c.kept ht (fun g hg => h1 g (Or.inr (Or.inl hg))) h2, d.kept ht (fun g hg => h1 g (Or.inr (Or.inr hg))) h2⟩
theorem Sl.below (h : Sl w Z sb v1 v2 f s) (hb : Below w.heap.size w w') : Sl w' Z sb v1 v2 f s := h.kept (Turn.of_below (Z := fun _ => False) hb) (fun _ _ => id) (fun _ _ _ _ _ => id)
theorem Sl.drewN (h : Sl w Z sb v1 v2 f s) (m : Nat) : Sl (w.drewN m) Z sb v1 v2 f s := h.kept ((Turn.refl (fun _ => False) w).drewN m) (fun _ _ => id) (fun _ _ _ _ _ => id)
theorem Sl.mono (h : Sl w Z sb v1 v2 f s) (hz : ∀ k, Z k → Z' k) : Sl w Z' sb v1 v2 f s := by
  obtain ⟨cv, M1, M2, a, b, c, d⟩ := h.mem
  exact ⟨h.f1, h.f4, h.n1, h.n2, h.ne, cv, M1, M2, a, b.mono hz, c.mono hz, d.mono hz⟩
theorem Sl.low (h : Sl w Z sb v1 v2 f s) : Sl w (fun k => k < w.heap.size) sb v1 v2 f s := by
  obtain ⟨cv, M1, M2, a, b, c, d⟩ := h.mem
  exact ⟨h.f1, h.f4, h.n1, h.n2, h.ne, cv, M1, M2, a, b.lt, ⟨c.is, c.own, fun x hx => (c.all x hx).lt⟩, ⟨d.is, d.own, fun x hx => (d.all x hx).lt⟩⟩
end
/-- What a call of a slot's leaves. -/
def SlPost (w : World) (Z : Nat → Prop) (sb : Nat) (v1 v2 : Value) (f : Int) (s : Sx) (w' : World) : Prop :=
  ∃ u1 u2, Sl w' (fun k => Z k ∨ w.heap.size ≤ k) sb u1 u2 f s ∧ (∀ g, SZ sb u1 u2 g → SZ sb v1 v2 g ∨ w.heap.size ≤ g) ∧ Turn (SZ sb v1 v2) w w'
section
variable {w w' : World} {Z Z' Y : Nat → Prop} {v v1 v2 : Value} {l : List Rq} {L : List Vo} {M : List Ve} {sb : Nat} {f : Int} {s : Sx}
theorem SlPost.same (h : Sl w Z sb v1 v2 f s) (hb : Below w.heap.size w w') : SlPost w Z sb v1 v2 f s w' := ⟨v1, v2, (h.below hb).mono (fun _ hk => Or.inl hk), fun _ hg => Or.inl hg, Turn.of_below hb⟩
def rowOfK (kd : Int) (v1 v2 : Value) : Value := if kd = 4 then v1 else if kd = 5 then v2 else .slice none 0 0
def voOfK (kd : Int) (s : Sx) : List Vo := if kd = 4 then s.P else if kd = 5 then s.C else []
theorem svotes_any (h : Sl w Z sb v1 v2 f s) (kd : Int) : Calls Try.prog 27 #[.pointer (some ⟨sb, 0, none⟩), .int .i64 kd] w fun e w' => e = .returned (rowOfK kd v1 v2) ∧ w = w' := by
  obtain ⟨cv, M1, M2, h1, _, h3, h4⟩ := h.mem
  have c3 := h1.cell 3
  have c4 := h1.cell 4
  simp only [List.getElem?_toArray, List.getElem?_cons_zero, List.getElem?_cons_succ] at c3 c4
  obtain ⟨A1, d1, rfl, -, -⟩ := own_slice h3.own
  obtain ⟨A2, d2, rfl, -, -⟩ := own_slice h4.own
  obtain ⟨n1, hn1⟩ : ∃ n, s.P.length = n := ⟨_, rfl⟩
  obtain ⟨n2, hn2⟩ : ∃ n, s.C.length = n := ⟨_, rfl⟩
  rw [hn1] at c3 ⊢
  rw [hn2] at c4 ⊢
  clear h h1 h3 h4 hn1 hn2
  by_cases k4 : kd = 4
  · subst k4
    go_enter Try.func27, Try.ntmps27
    go_wp2
    go_ret
    exact ⟨rfl, rfl⟩
  · have g4 : (kd == 4) = false := by simp [k4]
    by_cases k5 : kd = 5
    · subst k5
      go_enter Try.func27, Try.ntmps27
      go_wp2
      go_ret
      exact ⟨rfl, rfl⟩
    · have g5 : (kd == 5) = false := by simp [k5]
      have HE := Lib.hid (show ∀ x y : Value, rowOfK kd x y = .slice none 0 0 from fun x y => by unfold rowOfK; rw [if_neg k4, if_neg k5])
      clear k4 k5
      go_enter Try.func27, Try.ntmps27
      go_wp2
      go_ret
      exact ⟨by rw [HE.out]; rfl, rfl⟩
theorem Sl.rowK (h : Sl w Z sb v1 v2 f s) (kd : Int) : ∃ M, Row w Z (rowOfK kd v1 v2) (voOfK kd s) M := by
  obtain ⟨cv, M1, M2, _, _, h3, h4⟩ := h.mem
  unfold rowOfK voOfK
  by_cases k4 : kd = 4
  · rw [if_pos k4, if_pos k4]; exact ⟨M1, h3⟩
  · rw [if_neg k4, if_neg k4]
    by_cases k5 : kd = 5
    · rw [if_pos k5, if_pos k5]; exact ⟨M2, h4⟩
    · rw [if_neg k5, if_neg k5]; exact ⟨[], Row.nought _ _⟩
theorem Sl.lenK (h : Sl w Z sb v1 v2 f s) (kd : Int) : (voOfK kd s).length ≤ 13 := by
  have := h.n1
  have := h.n2
  have := h.f4
  unfold voOfK
  split
  · omega
  · split
    · omega
    · simp
theorem Sx.voted_is (s : Sx) (kd k : Int) : s.voted kd k = hadS (voOfK kd s) k := by
  unfold Sx.voted voOfK
  split
  · rfl
  · split
    · rfl
    · rw [hadS_bad (L := []) (by simp; omega)]
set_option maxHeartbeats 1000000 in
theorem svoted_any (h : Sl w Z sb v1 v2 f s) (kd k : Int) : Calls Try.prog 24 #[.pointer (some ⟨sb, 0, none⟩), .int .i64 kd, .int .i64 k] w fun e w' => e = .returned (.bool (s.voted kd k)) ∧ w = w' := by
  rw [Sx.voted_is]
  have HC := Lib.hid (svotes_any h kd)
  obtain ⟨M, hr⟩ := h.rowK kd
  obtain ⟨L, hL⟩ : ∃ L, voOfK kd s = L := ⟨_, rfl⟩
  obtain ⟨v, hv⟩ : ∃ v, rowOfK kd v1 v2 = v := ⟨_, rfl⟩
  rw [hL] at hr ⊢
  rw [hv] at HC hr
  clear h hL hv
  by_cases hk : 0 ≤ k ∧ k < L.length
  · obtain ⟨m, rfl⟩ := Int.eq_ofNat_of_zero_le hk.1
    have hm : m < L.length := by omega
    obtain ⟨g, c, x, rfl, _, hx, c0, _, _⟩ := hr.cells hm
    rw [hadS_at hx]
    obtain ⟨b, hb⟩ : ∃ b, x.o.ca = b := ⟨_, rfl⟩
    rw [hb] at c0 ⊢
    obtain ⟨n, hn⟩ : ∃ n, L.length = n := ⟨_, rfl⟩
    rw [hn] at HC hm
    have hmi : (m : Int) < (n : Int) := by omega
    clear hr hk hx hb hn
    go_enter Try.func24, Try.ntmps24
    go_wp2_with fail
    refine HC.out.mono ?_
    rintro e w1 ⟨rfl, rfl⟩
    go_wp2_with fail
    go_ret
    first | exact ⟨rfl, rfl⟩ | simp
  · rw [hadS_bad (by omega)]
    obtain ⟨A, c, rfl, -, -⟩ := own_slice hr.own
    obtain ⟨n, hn⟩ : ∃ n, L.length = n := ⟨_, rfl⟩
    rw [hn] at HC hk
    clear hr hn
    by_cases h0 : 0 ≤ k
    · have g0 : decide (0 ≤ k) = true := decide_eq_true h0
      have g1 : decide (k < (n : Int)) = false := decide_eq_false (by omega)
      clear hk h0
      go_enter Try.func24, Try.ntmps24
      go_wp2_with fail
      refine HC.out.mono ?_
      rintro e w1 ⟨rfl, rfl⟩
      go_wp2_with fail
      go_ret
      first | exact ⟨rfl, rfl⟩ | simp
    · have g0 : decide (0 ≤ k) = false := decide_eq_false h0
      clear hk h0
      go_enter Try.func24, Try.ntmps24
      go_wp2_with fail
      refine HC.out.mono ?_
      rintro e w1 ⟨rfl, rfl⟩
      go_wp2_with fail
      go_ret
      first | exact ⟨rfl, rfl⟩ | simp
end
end Go.Proofs.Ythlmalangjgioaa
