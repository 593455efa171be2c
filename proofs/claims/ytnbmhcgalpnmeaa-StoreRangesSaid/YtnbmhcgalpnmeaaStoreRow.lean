/- Package store: a store behind a row of operations; what All tells, as a row. -/
import Derived.Test.YtnbmhcgalpnmeaaStoreTwo
import Derived.Test.YtnbmhcgalpnmeaaSamePairs
import Derived.Test.YtnbmhcgalpnmeaaOps10
namespace Go.Proofs.Ytnbmhcgalpnmeaa
open Go.RowKit Go.Maps

/-- A store that i operations were applied to. -/
structure Ru (w : World) (sb bm : Nat) (i : Nat) (wr : World) : Prop where
  ex : ∃ N V, N ≤ i ∧ Sn w sb bm N V wr
theorem Sn.all {w wr : World} {sb bm N : Nat} {V : Kv} (h : Sn w sb bm N V wr) {l : List (Int × Int)} (hl : V.all = l) :
    Calls Try.prog 20 #[.pointer (some ⟨sb, 0, none⟩)] wr fun e w' => ∃ A c, e = .returned (.slice A l.length c) ∧ Has w' w'.heap.size A (pairCells l) ∧ (∀ ad, A = some ad → bm < ad.block) ∧ Sn w sb bm N V w' ∧ Below wr.heap.size wr w' :=
  (sall_any h.st).mono fun _ w' ⟨v, he, ho, hb⟩ => by
    obtain ⟨A, c, rfl, _, _⟩ := own_slice ho
    rw [hl] at ho he
    refine ⟨A, c, he, has_rows ho, fun ad e => ?_, h.below hb, hb⟩
    have h1 := (ho.lt ad.block (by rw [e]; rfl)).1
    have h2 := h.st.lt
    omega
/-- The sum of the values in a row. -/
def psnd (l : List (Int × Int)) : Int := l.foldr (fun p s => p.2 + s) 0
theorem psnd_app : ∀ l m : List (Int × Int), psnd (l ++ m) = psnd l + psnd m
  | [], m => by simp [psnd]
  | p :: l, m => by
    show p.2 + psnd (l ++ m) = p.2 + psnd l + psnd m
    rw [psnd_app l m]
    omega
theorem psnd_upTo (V : Kv) : ∀ n : Nat, psnd (V.upTo n) = V.sumTo n
  | 0 => rfl
  | n + 1 => by
    show _ = V.sumTo n + V.val n
    unfold Kv.val
    cases hV : V (n : Int) with
    | none => rw [Kv.upTo_none hV, psnd_upTo V n]; simp
    | some v => rw [Kv.upTo_some hV, psnd_app, psnd_upTo V n]; simp [psnd]
theorem psnd_all (V : Kv) : psnd V.all = V.sum := psnd_upTo V 64
theorem psnd_next {l : List (Int × Int)} {j : Nat} {p : Int × Int} (h : l[j]? = some p) : psnd (l.take (j + 1)) = psnd (l.take j) + p.2 := by
  rw [List.take_add_one, h, psnd_app]
  simp [psnd]
theorem psnd_in {l : List (Int × Int)} (h : ∀ p ∈ l, -2147483648 < p.2 ∧ p.2 < 2147483648) : ∀ j : Nat, j ≤ l.length → -(2147483648 * (j : Int)) ≤ psnd (l.take j) ∧ psnd (l.take j) ≤ 2147483648 * (j : Int)
  | 0, _ => by simp [psnd]
  | j + 1, hj => by
    have h1 := psnd_in h j (by omega)
    have h2 := h _ (List.getElem_mem (show j < l.length by omega))
    rw [psnd_next (List.getElem?_eq_getElem (show j < l.length by omega))]
    omega
theorem Kv.all_in {V : Kv} (h : V.Ok) : ∀ p ∈ V.all, (0 ≤ p.1 ∧ p.1 < 64) ∧ -2147483648 < p.2 ∧ p.2 < 2147483648 := fun p hp => by
  obtain ⟨k, v⟩ := p
  exact h k v ((Kv.mem_upTo 64).1 hp).2
theorem Kv.upTo_rises (V : Kv) : ∀ n : Nat, (V.upTo n).Pairwise (fun p q => p.1 < q.1)
  | 0 => by simp [Kv.upTo]
  | n + 1 => by
    cases hV : V (n : Int) with
    | none => rw [Kv.upTo_none hV]; exact Kv.upTo_rises V n
    | some v =>
      rw [Kv.upTo_some hV, List.pairwise_append]
      refine ⟨Kv.upTo_rises V n, by simp, fun p hp q hq => ?_⟩
      obtain ⟨k, u⟩ := p
      have h1 := ((Kv.mem_upTo n).1 hp).1
      rw [List.mem_singleton.1 hq]
      exact h1.2
theorem Kv.all_rises (V : Kv) {j : Nat} (h : j + 1 < V.all.length) : (V.all[j]).1 < (V.all[j + 1]).1 := List.pairwise_iff_getElem.1 (V.upTo_rises 64) j (j + 1) (by unfold Kv.all at h; omega) h (Nat.lt_succ_self j)
/-- What is known of the row that All tells (in a bag of its own: a walk that sees V.all, V.sum unfolds them). -/
structure AllIs (V : Kv) (l : List (Int × Int)) : Prop where
  all : V.all = l
  vals : ∀ p ∈ l, (0 ≤ p.1 ∧ p.1 < 64) ∧ -2147483648 < p.2 ∧ p.2 < 2147483648
  len : l.length ≤ 64
  sum : psnd l = V.sum
  up : ∀ j, (h : j + 1 < l.length) → (l[j]).1 < (l[j + 1]).1
theorem AllIs.of {V : Kv} (h : V.Ok) : ∃ l, AllIs V l := ⟨V.all, rfl, Kv.all_in h, V.upTo_len 64, psnd_all V, fun _ h => V.all_rises h⟩
end Go.Proofs.Ytnbmhcgalpnmeaa
