/- Plain: what two rising rows have in common. -/
import Derived.Test.YtallcmknajigfaaSets4Walk
namespace Go.Proofs.Ytallcmknajigfaa
open Go.RowKit

def inL (x : List Vt) (k : Nat) : Bool := x.any fun v => v.nd == (k : Int)
def comK (x y : List Vt) : List Nat := List.filter (fun k : Nat => inL x k && inL y k) (List.range 13)
def commonS (x y : List Vt) : List Int := List.map (fun k : Nat => (k : Int)) (comK x y)
theorem rises_all {N : Int} : ∀ {l : List Vt} {last : Int}, risesF N last l = true → (∀ v ∈ l, last < v.nd ∧ v.nd < N) ∧ l.Pairwise (fun a b => a.nd < b.nd)
  | [], _, _ => ⟨by simp, List.Pairwise.nil⟩
  | v :: l, last, h => by
    simp only [risesF, Bool.and_eq_true, decide_eq_true_eq] at h
    obtain ⟨h1, h2⟩ := rises_all (l := l) h.2
    refine ⟨fun x hx => ?_, List.pairwise_cons.2 ⟨fun x hx => (h1 x hx).1, h2⟩⟩
    rcases List.mem_cons.1 hx with rfl | hx
    · exact h.1
    · have := h1 x hx
      have := h.1
      omega
/-- A rising row: so many, all of them nodes, each once. -/
structure RowIs (l : List Vt) (f : Nat) : Prop where
  len : l.length = 2 * f + 1
  low : ∀ v ∈ l, 0 ≤ v.nd ∧ v.nd < 3 * (f : Int) + 1
  up : l.Pairwise (fun a b => a.nd < b.nd)
theorem RowIs.of {l : List Vt} {f : Nat} (h : risingS l (f : Int) = true) : RowIs l f := by
  unfold risingS at h
  simp only [Bool.and_eq_true, decide_eq_true_eq] at h
  obtain ⟨h1, h2⟩ := rises_all h.2
  exact ⟨by omega, fun v hv => by have := h1 v hv; omega, h2⟩
def hits (l : List Vt) (z : Int) : Nat := (l.filter fun v => v.nd == z).length
theorem hits_next {l : List Vt} {j : Nat} {v : Vt} (h : l[j]? = some v) (z : Int) : hits (l.take (j + 1)) z = hits (l.take j) z + (if v.nd = z then 1 else 0) := by
  unfold hits
  rw [List.take_add_one, h, List.filter_append, List.length_append]
  by_cases hz : v.nd = z <;> simp [hz]
theorem hits_none {l : List Vt} {z : Int} (h : ∀ v ∈ l, v.nd ≠ z) : hits l z = 0 := by
  unfold hits
  rw [List.filter_eq_nil_iff.2 (fun v hv => by simpa using h v hv)]
  rfl
theorem hits_one {z : Int} : ∀ {l : List Vt}, l.Pairwise (fun a b => a.nd < b.nd) → (∃ v ∈ l, v.nd = z) → hits l z = 1
  | [], _, h => by obtain ⟨v, hv, _⟩ := h; simp at hv
  | x :: l, hp, h => by
    obtain ⟨h1, h2⟩ := List.pairwise_cons.1 hp
    by_cases hx : x.nd = z
    · have := hits_none (l := l) (z := z) (fun v hv e => by have := h1 v hv; omega)
      unfold hits at this ⊢
      simp [hx, this]
    · have := hits_one (l := l) h2 (by
        obtain ⟨v, hv, hz⟩ := h
        rcases List.mem_cons.1 hv with rfl | hv
        · exact absurd hz hx
        · exact ⟨v, hv, hz⟩)
      unfold hits at this ⊢
      simp [hx, this]
theorem inL_iff {x : List Vt} {k : Nat} : inL x k = true ↔ ∃ v ∈ x, v.nd = (k : Int) := by simp [inL]
/-- As many places as votes. -/
theorem in_count {x : List Vt} {f : Nat} (h : RowIs x f) : (List.filter (inL x) (List.range (3 * f + 1))).length = 2 * f + 1 := by
  have hp : (List.filter (inL x) (List.range (3 * f + 1))).Perm (x.map fun v => v.nd.toNat) := by
    refine (List.perm_ext_iff_of_nodup (List.nodup_range.filter _) ?_).2 (fun k => ?_)
    · rw [List.nodup_iff_pairwise_ne, List.pairwise_map]
      refine h.up.imp_of_mem ?_
      intro a b ha hb hab e
      have h1 := h.low a ha
      have h2 := h.low b hb
      omega
    · rw [List.mem_filter, List.mem_range, inL_iff, List.mem_map]
      constructor
      · rintro ⟨_, v, hv, hk⟩
        exact ⟨v, hv, by omega⟩
      · rintro ⟨v, hv, hk⟩
        have h1 := h.low v hv
        exact ⟨by omega, v, hv, by omega⟩
  rw [hp.length_eq, List.length_map, h.len]
theorem overlap (p q : Nat → Bool) : ∀ l : List Nat, (l.filter p).length + (l.filter q).length ≤ (l.filter fun k => p k && q k).length + l.length
  | [] => by simp
  | k :: l => by
    have := overlap p q l
    simp only [List.filter_cons, List.length_cons]
    cases p k <;> cases q k <;> simp <;> omega
/-- Two quorums have a weak one in common. -/
theorem common_many {x y : List Vt} {f : Nat} (hf : f ≤ 4) (hx : RowIs x f) (hy : RowIs y f) : f + 1 ≤ (commonS x y).length := by
  have h1 := overlap (inL x) (inL y) (List.range (3 * f + 1))
  rw [in_count hx, in_count hy, List.length_range] at h1
  have h2 : (List.filter (fun k : Nat => inL x k && inL y k) (List.range (3 * f + 1))).length ≤ (comK x y).length :=
    ((List.range_sublist.2 (show 3 * f + 1 ≤ 13 by omega)).filter _).length_le
  unfold commonS
  rw [List.length_map]
  omega
theorem common_most (x y : List Vt) : (commonS x y).length ≤ 13 := by
  unfold commonS comK
  rw [List.length_map]
  have := List.length_filter_le (fun k : Nat => inL x k && inL y k) (List.range 13)
  simpa using this
theorem common_get {x y : List Vt} {j : Nat} {z : Int} (h : (commonS x y)[j]? = some z) : (∃ v ∈ x, v.nd = z) ∧ ∃ v ∈ y, v.nd = z := by
  have hm := List.mem_of_getElem? h
  unfold commonS at hm
  obtain ⟨k, hk, rfl⟩ := List.mem_map.1 hm
  obtain ⟨_, h2⟩ := List.mem_filter.1 hk
  simp only [Bool.and_eq_true] at h2
  exact ⟨inL_iff.1 h2.1, inL_iff.1 h2.2⟩
theorem common_rise {x y : List Vt} {i j : Nat} {u z : Int} (hij : i < j) (hi : (commonS x y)[i]? = some u) (hj : (commonS x y)[j]? = some z) : u < z := by
  have hp : (commonS x y).Pairwise (· < ·) := by
    unfold commonS comK
    rw [List.pairwise_map]
    exact ((List.pairwise_lt_range (n := 13)).filter _).imp (fun h => by omega)
  obtain ⟨h1, h2⟩ := List.getElem?_eq_some_iff.1 hi
  obtain ⟨h3, h4⟩ := List.getElem?_eq_some_iff.1 hj
  rw [← h2, ← h4]
  exact List.pairwise_iff_getElem.1 hp i j h1 h3 hij
end Go.Proofs.Ytallcmknajigfaa
