/- Two slots apart; marks by what was told. -/
import Derived.Test.YthlmalangjgioaaSlotTell
namespace Go.Proofs.Ythlmalangjgioaa
open Go.RowKit
set_option linter.unusedSimpArgs false

/-- Two slots that share no block but those of batches. -/
structure Tw14 (w : World) (sa : Nat) (a1 a2 : Value) (sb : Nat) (b1 b2 : Value) (f : Int) (s t : Sx) (wr : World) : Prop where
  ra : Rs w sa a1 a2 f s wr
  rb : Rs w sb b1 b2 f t wr
  ap : ∀ k, SZ sa a1 a2 k → ¬ SZ sb b1 b2 k
section
variable {w wr wz : World} {sa sb : Nat} {a1 a2 b1 b2 : Value} {f : Int} {s t s' t' : Sx}
theorem Tw14.below (h : Tw14 w sa a1 a2 sb b1 b2 f s t wr) (hb : Below wr.heap.size wr wz) : Tw14 w sa a1 a2 sb b1 b2 f s t wz := ⟨h.ra.below hb, h.rb.below hb, h.ap⟩
theorem Tw14.drewN (h : Tw14 w sa a1 a2 sb b1 b2 f s t wr) (m : Nat) : Tw14 w sa a1 a2 sb b1 b2 f s t (wr.drewN m) := ⟨h.ra.drewN m, h.rb.drewN m, h.ap⟩
theorem Tw14.swap (h : Tw14 w sa a1 a2 sb b1 b2 f s t wr) : Tw14 w sb b1 b2 sa a1 a2 f t s wr := ⟨h.rb, h.ra, fun k h1 h2 => h.ap k h2 h1⟩
theorem Tw14.post (h : Tw14 w sa a1 a2 sb b1 b2 f s t wr) (hp : SlPost wr (fun _ => True) sa a1 a2 f s' wz) : ∃ u1 u2, Tw14 w sa u1 u2 sb b1 b2 f s' t wz := by
  obtain ⟨u1, u2, h1, h2, h3⟩ := hp
  obtain ⟨low, hzn⟩ : Below w.heap.size w wz ∧ ∀ k, SZ sa u1 u2 k → w.heap.size ≤ k := by
    refine ⟨h.ra.low.trans (h3.below h.ra.low.size (fun k hk hz => ?_)), fun k hk => ?_⟩
    · have := h.ra.zn k hz; omega
    · rcases h2 k hk with h2 | h2
      · exact h.ra.zn k h2
      · exact Nat.le_trans h.ra.low.size h2
  refine ⟨u1, u2, ⟨h1.mono (fun _ _ => trivial), hzn, low⟩, ⟨h.rb.sl.kept h3 (fun k hk e => h.ap k e hk) (fun u b hu g hg => h.ra.sl.apart hu hg), h.rb.zn, low⟩, fun k hk hb => ?_⟩
  rcases h2 k hk with h2 | h2
  · exact h.ap k h2 hb
  · have := h.rb.sl.lt hb; omega
theorem tw14_new {n : Nat} (hra : Rs w sa a1 a2 f s wr) (h1 : 1 ≤ f) (h4 : f ≤ 4) (hn : (n : Int) = 3 * f + 1) : Calls Try.prog 10 #[.int .i64 f] wr fun e w' => ∃ sb v1 v2, e = .returned (.tuple #[.pointer (some ⟨sb, 0, none⟩), .int .i64 0]) ∧ Tw14 w sa a1 a2 sb v1 v2 f s (Sx.new n) w' :=
  (rs_new h1 h4 hn w wr hra.low).mono fun _ _ ⟨sb, v1, v2, he, hs, hb, hz⟩ => ⟨sb, v1, v2, he, ⟨hra.below hb, hs, fun k hk hk2 => by have := hra.sl.lt hk; have := hz k hk2; omega⟩⟩
end
/-- The marked are just those told by the first i. -/
structure Mk (bs : List Bool) (i : Nat) (g : Nat → Nat) : Prop where
  len : bs.length = 13
  is : ∀ k, bs[k]? = some true ↔ ∃ j, j < i ∧ g j = k
theorem Mk.zero (g : Nat → Nat) : Mk noM 0 g := ⟨rfl, fun k => ⟨fun h => by unfold noM at h; rw [List.getElem?_replicate] at h; split at h <;> simp at h, fun ⟨j, h, _⟩ => by omega⟩⟩
theorem Mk.step {bs : List Bool} {i : Nat} {g : Nat → Nat} (h : Mk bs i g) {k : Nat} (hk : g i = k) (h13 : k < 13) : Mk (bs.set k true) (i + 1) g := by
  refine ⟨by rw [List.length_set]; exact h.len, fun m => ?_⟩
  rw [List.getElem?_set]
  by_cases e : k = m
  · subst e
    rw [if_pos rfl, if_pos (by rw [h.len]; exact h13)]
    exact ⟨fun _ => ⟨i, by omega, hk⟩, fun _ => rfl⟩
  · rw [if_neg e, h.is]
    constructor
    · rintro ⟨j, hj, hg⟩; exact ⟨j, by omega, hg⟩
    · rintro ⟨j, hj, hg⟩
      refine ⟨j, ?_, hg⟩
      by_cases e2 : j = i
      · subst e2; exact absurd (hk.symm.trans hg) e
      · omega
theorem Mk.tell {bs cs : List Bool} {i : Nat} {g g' : Nat → Nat} (h : Mk bs i g) (h' : Mk cs i g') (hp : ∀ k, (∃ j, j < i ∧ g j = k) ↔ (∃ j, j < i ∧ g' j = k)) (n : Nat) (s0 : Int) (b : List Rq) : tellM n bs s0 b = tellM n cs s0 b := by
  unfold tellM
  refine List.map_congr_left fun k _ => ?_
  by_cases e : bs[k]? = some true
  · rw [if_pos e, if_pos ((h'.is k).2 ((hp k).1 ((h.is k).1 e)))]
  · rw [if_neg e, if_neg (fun e2 => e ((h.is k).2 ((hp k).2 ((h'.is k).1 e2))))]
/-- Whoever is told with a turn is told. -/
theorem turned {m : Nat} (hm : 0 < m) (t : Nat) (z : Nat → Nat) (k : Nat) : (∃ j, j < m ∧ z j = k) ↔ (∃ j, j < m ∧ z ((j + t) % m) = k) := by
  constructor
  · rintro ⟨j, hj, rfl⟩
    refine ⟨(j + (m - t % m)) % m, Nat.mod_lt _ hm, ?_⟩
    congr 1
    have h1 : t % m < m := Nat.mod_lt _ hm
    rw [Nat.add_mod, Nat.mod_mod, ← Nat.add_mod]
    have h2 : j + (m - t % m) + t = j + m * (t / m) + m := by
      have := Nat.div_add_mod t m
      omega
    rw [h2, Nat.add_mod_right, Nat.add_mul_mod_self_left, Nat.mod_eq_of_lt hj]
  · rintro ⟨j, hj, rfl⟩
    exact ⟨_, Nat.mod_lt _ hm, rfl⟩
theorem forL_tell (n : Nat) (bs : List Bool) (s0 s1 : Int) (b : List Rq) : (forL 0 (tellM n bs s0 b) b).length = (forL 0 (tellM n bs s1 b) b).length := by
  have : ∀ (l : List Nat) (k : Nat), (forL k (l.map fun (k : Nat) => if bs[k]? = some true then (⟨true, s0 + (k : Int), b⟩ : Vo) else offV) b).length = (forL k (l.map fun (k : Nat) => if bs[k]? = some true then (⟨true, s1 + (k : Int), b⟩ : Vo) else offV) b).length := by
    intro l
    induction l with
    | nil => intro k; rfl
    | cons x l ih =>
      intro k
      rw [List.map_cons, List.map_cons, forL_cons, forL_cons]
      by_cases e : bs[x]? = some true
      · rw [if_pos e, if_pos e, if_pos ⟨rfl, rfl⟩, if_pos ⟨rfl, rfl⟩, List.length_cons, List.length_cons, ih]
      · rw [if_neg e, if_neg e, if_neg (by rintro ⟨e, -⟩; cases e), if_neg (by rintro ⟨e, -⟩; cases e), ih]
  exact this _ _
theorem decS_tell {n q : Nat} {bs : List Bool} {s0 : Int} (s1 : Int) {b : List Rq} (h : decS (tellM n bs s0 b) b q = none) : decS (tellM n bs s1 b) b q = none := by
  refine decS_none ?_
  rw [forL_tell n bs s1 s0 b]
  unfold decS at h
  split at h
  · cases h
  · omega
theorem decS_tell2 {n q : Nat} {bs : List Bool} {s0 : Int} (s1 : Int) {b : List Rq} {l : List Vt} (h : decS (tellM n bs s0 b) b q = some l) : ∃ l', decS (tellM n bs s1 b) b q = some l' ∧ l'.length = q := by
  have h1 := (decS_is h).1
  rw [forL_tell n bs s0 s1 b] at h1
  exact ⟨_, decS_some h1, (decS_is (decS_some h1)).2.2⟩
/-- What no quorum has voted for is not committed. -/
theorem com_tell {n q : Nat} {bs : List Bool} {s0 : Int} {b : List Rq} (hb : b ≠ []) (h0 : 0 < q) (h : decS (tellM n bs s0 b) b q = none) : comS q (tellM n bs s0 b) (tellM n bs s0 b) = none := by
  refine comS_none fun x hx => ?_
  obtain ⟨k, hk⟩ := List.getElem?_of_mem hx
  have hkn : k < n := by have := (List.getElem?_eq_some_iff.1 hk).1; rwa [tellM_len] at this
  rw [tellM_at _ _ _ hkn] at hk
  injection hk with hk
  by_cases e : bs[k]? = some true
  · rw [if_pos e] at hk
    rw [← hk]; exact h
  · rw [if_neg e] at hk
    rw [← hk]
    exact decS_none (by rw [show forL 0 (tellM n bs s0 b) offV.bt = [] from tell_other hb _ _ _ _]; exact h0)
theorem comS_mem {q : Nat} {L : List Vo} : ∀ {M : List Vo} {b : List Rq} {v : List Vt}, comS q L M = some (b, v) → ∃ x ∈ M, x.bt = b
  | [], _, _, h => by cases h
  | x :: M, b, v, h => by
    unfold comS at h
    cases hd : decS L x.bt q with
    | some u =>
      rw [hd] at h
      injection h with h
      injection h with h1 h2
      exact ⟨x, List.mem_cons_self, h1⟩
    | none =>
      rw [hd] at h
      obtain ⟨y, hy, hb⟩ := comS_mem h
      exact ⟨y, List.mem_cons_of_mem _ hy, hb⟩
theorem Sl.com_low {w : World} {Z : Nat → Prop} {sb : Nat} {v1 v2 : Value} {f : Int} {s : Sx} (h : Sl w Z sb v1 v2 f s) (q : Nat) : (batOf (s.com q)).length ≤ 1000000 := by
  cases hc : s.com q with
  | none => exact Nat.zero_le _
  | some r =>
    obtain ⟨b, v⟩ := r
    obtain ⟨x, hx, hb⟩ := comS_mem hc
    obtain ⟨cv, M1, M2, _, _, _, h4⟩ := h.mem
    rw [← h4.is] at hx
    obtain ⟨e, he, rfl⟩ := List.mem_map.1 hx
    have := (h4.all e he).low
    rw [hb] at this
    exact this
theorem decS_len {L : List Vo} {b : List Rq} {q : Nat} : (vtsOf (decS L b q)).length ≤ L.length := by
  unfold decS vtsOf
  split
  · show ((forL 0 L b).take q).length ≤ _
    have := forL_le L 0 b
    rw [List.length_take]; omega
  · exact Nat.zero_le _
end Go.Proofs.Ythlmalangjgioaa
