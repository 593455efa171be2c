/- Package cache: what each call answers, as functions of the replies; a cache that was made since a world. -/
import Derived.Test.YtpjcedilkahpiaaCacheSame
import Derived.Test.YtpjcedilkahpiaaActs11
namespace Go.Proofs.Ytpjcedilkahpiaa
open Go.RowKit Go.Maps

/-- A client's reply; (0, 0) where there is none. -/
def atL (L : List (Int × Int)) (k : Int) : Int × Int := if 0 ≤ k then L.getD k.toNat (0, 0) else (0, 0)
def putC (L : List (Int × Int)) (k t r : Int) : Bool × List (Int × Int) :=
  if (0 ≤ k ∧ k < L.length) ∧ (atL L k).1 < t then (true, L.set k.toNat (t, r)) else (false, L)
def getS (L : List (Int × Int)) (k t : Int) : Int × Bool := if 0 < t ∧ t = (atL L k).1 then ((atL L k).2, true) else (0, false)
theorem atL_in {L : List (Int × Int)} {k : Nat} (h : k < L.length) : atL L k = L[k] := by
  unfold atL
  rw [if_pos (by omega), Int.toNat_natCast, List.getD_eq_getElem?_getD, List.getElem?_eq_getElem h]
  rfl
theorem atL_out {L : List (Int × Int)} {k : Int} (h : k < 0 ∨ (L.length : Int) ≤ k) : atL L k = (0, 0) := by
  unfold atL
  by_cases h0 : 0 ≤ k
  · rw [if_pos h0, List.getD_eq_getElem?_getD, List.getElem?_eq_none (by omega)]
    rfl
  · rw [if_neg h0]
theorem atL_set {L : List (Int × Int)} {k : Nat} (h : k < L.length) (x : Int × Int) (j : Int) : atL (L.set k x) j = if j = k then x else atL L j := by
  unfold atL
  by_cases h0 : 0 ≤ j
  · rw [if_pos h0, if_pos h0, List.getD_eq_getElem?_getD, List.getD_eq_getElem?_getD, List.getElem?_set]
    by_cases e : j = k
    · subst e
      rw [if_pos (by simp), if_pos rfl, if_pos (by simpa using h)]
      rfl
    · rw [if_neg (by omega), if_neg e]
  · rw [if_neg h0, if_neg h0, if_neg (by omega)]
theorem putC_len (L : List (Int × Int)) (k t r : Int) : (putC L k t r).2.length = L.length := by
  unfold putC
  split
  · exact List.length_set
  · rfl
/-- Times are never below 0. -/
def Late (L : List (Int × Int)) : Prop := ∀ k, 0 ≤ (atL L k).1
theorem late_new (n : Nat) : Late (List.replicate n (0, 0)) := fun k => by
  unfold atL
  by_cases h : 0 ≤ k
  · rw [if_pos h, List.getD_eq_getElem?_getD, List.getElem?_replicate]
    split <;> exact Int.le_refl _
  · rw [if_neg h]; exact Int.le_refl _
theorem putC_yes {L : List (Int × Int)} {k t r : Int} {L' : List (Int × Int)} (h : putC L k t r = (true, L')) : (atL L k).1 < t ∧ ∀ j, atL L' j = if j = k then (t, r) else atL L j := by
  unfold putC at h
  split at h
  · rename_i hc
    cases h
    refine ⟨hc.2, fun j => ?_⟩
    obtain ⟨n, rfl⟩ := Int.eq_ofNat_of_zero_le hc.1.1
    rw [Int.toNat_natCast]
    exact atL_set (by omega) _ _
  · cases h
theorem putC_no {L : List (Int × Int)} {k t r : Int} {L' : List (Int × Int)} (h : putC L k t r = (false, L')) : L' = L := by
  unfold putC at h
  split at h
  · cases h
  · cases h; rfl
theorem Late.put {L : List (Int × Int)} (h : Late L) (k t r : Int) : Late (putC L k t r).2 := by
  obtain ⟨b, L', hp⟩ : ∃ b L', putC L k t r = (b, L') := ⟨_, _, rfl⟩
  rw [hp]
  cases b
  · rw [putC_no hp]; exact h
  · obtain ⟨h1, h2⟩ := putC_yes hp
    intro j
    have := h k
    have := h j
    rw [h2]
    split <;> simp <;> omega
section
variable {w : World} {cb g c : Nat} {L : List (Int × Int)}
theorem clast_any (h : Ch w cb g c L) (k : Int) : Calls Try.prog 35 #[.pointer (some ⟨cb, 0, none⟩), .int .i64 k] w fun e w' => e = .returned (.int .i64 (atL L k).1) ∧ w = w' := by
  by_cases hk : 0 ≤ k ∧ k < L.length
  · obtain ⟨n, rfl⟩ := Int.eq_ofNat_of_zero_le hk.1
    have hn : n < L.length := by omega
    have := clast_in h hn
    rw [← atL_in hn] at this
    exact this
  · rw [atL_out (by omega)]
    exact clast_out h (by omega)
theorem cput_any (h : Ch w cb g c L) (k t r : Int) : Calls Try.prog 55 #[.pointer (some ⟨cb, 0, none⟩), .int .i64 k, .int .i64 t, .int .i64 r] w fun e w' => e = .returned (.bool (putC L k t r).1) ∧ Ch w' cb g c (putC L k t r).2 ∧ Turn (fun j => j = g) w w' := by
  by_cases hk : 0 ≤ k ∧ k < L.length
  · obtain ⟨n, rfl⟩ := Int.eq_ofNat_of_zero_le hk.1
    have hn : n < L.length := by omega
    unfold putC
    rw [atL_in hn]
    by_cases ht : L[n].1 < t
    · rw [if_pos ⟨hk, ht⟩, Int.toNat_natCast]
      exact cput_new h hn ht
    · rw [if_neg (fun h => ht h.2)]
      exact (cput_old h hn (by omega)).mono fun e w' ⟨h1, h2⟩ => ⟨h1, h2 ▸ h, h2 ▸ Turn.refl _ _⟩
  · unfold putC
    rw [if_neg (fun h => hk h.1)]
    exact (cput_none h (by omega)).mono fun e w' ⟨h1, h2⟩ => ⟨h1, h2 ▸ h, h2 ▸ Turn.refl _ _⟩
theorem cget_any (h : Ch w cb g c L) (k t : Int) : Calls Try.prog 34 #[.pointer (some ⟨cb, 0, none⟩), .int .i64 k, .int .i64 t] w fun e w' => e = .returned (.tuple #[.int .i64 (getS L k t).1, .bool (getS L k t).2]) ∧ w = w' := by
  unfold getS
  by_cases ht : 0 < t ∧ t = (atL L k).1
  · rw [if_pos ht]
    by_cases hk : 0 ≤ k ∧ k < L.length
    · obtain ⟨n, rfl⟩ := Int.eq_ofNat_of_zero_le hk.1
      have hn : n < L.length := by omega
      rw [atL_in hn] at ht ⊢
      exact cget_this h hn ht.2 ht.1
    · have := ht.2
      rw [atL_out (by omega)] at this
      have h0 : t = 0 := this
      omega
  · rw [if_neg ht]
    by_cases hk : 0 ≤ k ∧ k < L.length
    · obtain ⟨n, rfl⟩ := Int.eq_ofNat_of_zero_le hk.1
      have hn : n < L.length := by omega
      rw [atL_in hn] at ht
      by_cases h0 : t ≤ 0
      · exact cget_zero h0
      · exact cget_other h hn (fun e => ht ⟨by omega, e⟩)
    · exact cget_none h (by omega)
end
/-- A cache that was made since w. -/
structure Rc (w : World) (cb g c : Nat) (L : List (Int × Int)) (wr : World) : Prop where
  ch : Ch wr cb g c L
  lc : w.heap.size ≤ cb
  lg : w.heap.size ≤ g
  late : Late L
  low : Below w.heap.size w wr
section
variable {w wr : World} {cb g c : Nat} {L : List (Int × Int)}
theorem Rc.has (h : Rc w cb g c L wr) {A : Option Addr} {xs : List Value} (hh : Has w w.heap.size A xs) : Has wr w.heap.size A xs := hh.below h.low (Nat.le_refl _)
theorem Rc.put (h : Rc w cb g c L wr) {wz : World} {k t r : Int} (hc : Ch wz cb g c (putC L k t r).2) (ht : Turn (fun j => j = g) wr wz) : Rc w cb g c (putC L k t r).2 wz :=
  ⟨hc, h.lc, h.lg, h.late.put _ _ _, h.low.trans (ht.below h.low.size (fun k hk e => by have := h.lg; omega))⟩
theorem Rc.drewN (h : Rc w cb g c L wr) (n : Nat) : Rc w cb g c L (wr.drewN n) := ⟨h.ch.drewN n, h.lc, h.lg, h.late, h.low.trans ⟨rfl, rfl, rfl, Nat.le_refl _, fun _ _ => rfl⟩⟩
theorem Rc.drew (h : Rc w cb g c L wr) : Rc w cb g c L wr.drew := h.drewN 1
theorem Rc.below (h : Rc w cb g c L wr) {wz : World} (hb : Below wr.heap.size wr wz) : Rc w cb g c L wz := ⟨h.ch.below hb, h.lc, h.lg, h.late, h.low.trans (hb.mono h.low.size)⟩
theorem rc_new {n : Nat} (h1 : 1 ≤ n) (h4 : n ≤ 4) (w u : World) (hu : Below w.heap.size w u) : Calls Try.prog 36 #[.int .i64 (n : Int)] u fun e w' => ∃ cb g c, e = .returned (.tuple #[.pointer (some ⟨cb, 0, none⟩), .int .i64 0]) ∧ Rc w cb g c (List.replicate n (0, 0)) w' ∧ Below u.heap.size u w' ∧ u.heap.size ≤ cb ∧ u.heap.size ≤ g :=
  (cnew_any h1 h4 u).mono fun e w' ⟨cb, g, c, he, hc, q1, q2, hb⟩ => by
    have := hu.size
    exact ⟨cb, g, c, he, ⟨hc, by omega, by omega, late_new n, hu.trans (hb.mono hu.size)⟩, hb, q1, q2⟩
end
end Go.Proofs.Ytpjcedilkahpiaa
