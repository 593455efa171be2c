/- Words on memory: slices of structs, and arguments that are such slices, opened to cells (of no struct of the program). -/
import Derived.Test.YtcebnmhkbhhfiaaGears
import Derived.Deep.Slices
import Derived.Deep.Fields
import Derived.ChangeSame
import Derived.ProofKit
import Derived.OpenShut
namespace Go.Proofs.Ytcebnmhkbhhfiaa
open Go.RowKit Go.ChangeShapes Go.WideShapes Go.Deep

/-- A place in a row of things of s cells each. -/
theorem flatMap_at {α β : Type} {f : α → List β} {s : Nat} (hf : ∀ x, (f x).length = s) : ∀ {l : List α} {k : Nat} (hk : k < l.length) {i : Nat}, i < s → (l.flatMap f)[k * s + i]? = (f l[k])[i]?
  | x :: l, 0, _, i, hi => by
    rw [List.flatMap_cons, Nat.zero_mul, Nat.zero_add, List.getElem?_append_left (by rw [hf]; exact hi)]
    rfl
  | x :: l, k + 1, hk, i, hi => by
    rw [List.flatMap_cons, List.getElem?_append_right (by rw [hf, Nat.succ_mul]; omega), hf, show (k + 1) * s + i - s = k * s + i by rw [Nat.succ_mul]; omega]
    exact flatMap_at hf (by simpa using hk) hi
theorem flatMap_len {α β : Type} {f : α → List β} {s : Nat} (hf : ∀ x, (f x).length = s) (l : List α) : (l.flatMap f).length = l.length * s := by
  induction l with
  | nil => simp
  | cons x l ih => rw [List.flatMap_cons, List.length_append, hf, ih, List.length_cons, Nat.succ_mul]; omega
/-- The place i behind a place, in the walk's own spelling. -/
theorem add_pos (ad : Addr) (m i : Nat) (hi : 0 < i) : ad.add (m + i) = ⟨(ad.add m).block, (ad.add m).off + i, none⟩ := by
  rw [← addr_add]
  generalize ad.add m = p
  unfold Addr.add
  rw [if_neg (by omega)]
/-- The k-th thing of a row of things of s cells: where it lies, and its cells. -/
theorem Has.thing {α : Type} {f : α → List Value} {s : Nat} (hf : ∀ x, (f x).length = s) (h0 : 0 < s) {w : World} {B : Nat} {A : Option Addr} {l : List α} (h : Has w B A (l.flatMap f)) {k : Nat} (hk : k < l.length) :
    ∃ ad, A = some ad ∧ ad.block < B ∧ ∀ i v, (f l[k])[i]? = some v → w.cell? (ad.add (k * s + i)) = some v := by
  have hg : ∀ i v, (f l[k])[i]? = some v → ∃ ad, A = some ad ∧ ad.block < B ∧ w.cell? (ad.add (k * s + i)) = some v := fun i v hv => by
    have hi : i < s := by rw [← hf l[k]]; exact (List.getElem?_eq_some_iff.1 hv).1
    exact h (k * s + i) _ ((flatMap_at hf hk hi).trans hv)
  obtain ⟨ad, rfl, hb, _⟩ := hg 0 _ (List.getElem?_eq_getElem (by rw [hf]; exact h0))
  refine ⟨ad, rfl, hb, fun i v hv => ?_⟩
  obtain ⟨_, he, _, h1⟩ := hg i v hv
  cases he
  exact h1
theorem choose_list {α : Type} {n : Nat} {p : Nat → α → Prop} (h : ∀ i, i < n → ∃ x, p i x) : ∃ l : List α, l.length = n ∧ ∀ i (hi : i < l.length), p i l[i] := by
  induction n with
  | zero => exact ⟨[], rfl, fun i hi => absurd hi (by simp)⟩
  | succ n ih =>
    obtain ⟨l, hl, h1⟩ := ih fun i hi => h i (by omega)
    obtain ⟨x, hx⟩ := h n (by omega)
    refine ⟨l ++ [x], by simp [hl], fun i hi => ?_⟩
    by_cases hin : i < l.length
    · rw [List.getElem_append_left hin]; exact h1 i hin
    · have hie : i = n := by simp at hi; omega
      subst hie
      rw [List.getElem_append_right (by omega)]
      simpa using hx
/-- Each cell of a row of things of s cells each is a cell of one of them. -/
theorem flatMap_get {α : Type} {f : α → List Value} {s : Nat} (hf : ∀ x, (f x).length = s) (h0 : 0 < s) {l : List α} {j : Nat} {u : Value} (h : (l.flatMap f)[j]? = some u) :
    ∃ (k i : Nat) (hk : k < l.length), i < s ∧ j = k * s + i ∧ (f l[k])[i]? = some u := by
  have hj : j < l.length * s := by rw [← flatMap_len hf l]; exact (List.getElem?_eq_some_iff.1 h).1
  have hk : j / s < l.length := (Nat.div_lt_iff_lt_mul h0).2 hj
  have hi : j % s < s := Nat.mod_lt _ h0
  have he : j = j / s * s + j % s := by rw [Nat.mul_comm]; exact (Nat.div_add_mod j s).symm
  refine ⟨j / s, j % s, hk, hi, he, ?_⟩
  rw [← flatMap_at hf hk hi, ← he, h]

section
variable {H : Type} {enc : TypeId × Value → H} {P : Program} {w : World} {base : Nat} {held : Bool}
theorem open_things {α : Type} {f : α → List Value} {good : α → Prop} {s : Nat} {t e : TypeId} {fuel : Nat} {A : Option Addr} {len cap : Nat} {y : DataW H × List MemPlace} (hf : ∀ x, (f x).length = s) (h0 : 0 < s)
    (ht : P.underlying t = some (.slice e)) (hc : P.cellsOf e = s)
    (hel : ∀ n cs z, cs.length = s → DataW.trod enc P w base (fun _ => true) held n e cs = some z → ∃ x, cs = f x ∧ good x)
    (h : DataW.trod enc P w base (fun _ => true) held fuel t [.slice A len cap] = some y) :
    ∃ l : List α, l.length = len ∧ len ≤ cap ∧ cap ≤ maxLen ∧ (A = none → cap = 0) ∧ Has w w.heap.size A (l.flatMap f) ∧ ∀ x ∈ l, good x := by
  rcases open_slice ht h with ⟨hcs, _⟩ | ⟨a, len', cap', m, n, D, Pl, hcs, _, hl, hm, hmm, _, hx⟩
  · injection hcs with hcs
    injection hcs with h1 h2 h3
    subst h1; subst h2; subst h3
    exact ⟨[], rfl, Nat.le_refl _, Nat.zero_le _, fun _ => rfl, Has.nil _ _ _, by simp⟩
  · injection hcs with hcs
    injection hcs with h1 h2 h3
    subst h1; subst h2; subst h3
    simp only [if_true] at hmm
    rw [hc] at hx
    obtain ⟨l, hll, hl1⟩ := choose_list (n := len) (p := fun i x => (∀ j u, (f x)[j]? = some u → w.cell? (a.add (i * s + j)) = some u) ∧ good x) (fun i hi => by
      obtain ⟨cs', h1, h2⟩ := hx i (by omega)
      obtain ⟨_, h4, h5⟩ := World.cells?_some h1
      obtain ⟨x, rfl, hg⟩ := hel n cs' _ h4 h2
      refine ⟨x, fun j u hj => ?_, hg⟩
      have hjs : j < s := by rw [← hf x]; exact (List.getElem?_eq_some_iff.1 hj).1
      rw [← Go.Proofs.Ytcebnmhkbhhfiaa.addr_add, h5 j hjs, hj])
    refine ⟨l, hll, hl, hm, (fun h => by cases h), fun j u hj => ?_, fun x hx => ?_⟩
    · obtain ⟨k, i, hk, hi, rfl, hv⟩ := flatMap_get hf h0 hj
      have hcell := (hl1 k hk).1 i u hv
      have hb := block_lt hcell
      rw [addr_block] at hb
      exact ⟨a, rfl, hb, hcell⟩
    · obtain ⟨k, hk, rfl⟩ := List.getElem_of_mem hx
      exact (hl1 k hk).2
end
section
variable {H : Type} {enc : TypeId × Value → H} {w : World} {base : Nat} {held : Bool}
theorem trod_i64 {n : Nat} {cs : List Value} {z : DataW H × List MemPlace} (h : DataW.trod enc Try.prog w base (fun _ => true) held n 3 cs = some z) : ∃ k, cs = [.int .i64 k] ∧ fit k := by
  obtain ⟨k, h1, _, h2⟩ := DataW.trod_int Try.underlying3 h
  exact ⟨k, h1, h2⟩
theorem at_field {fs : Array Field} {n : Nat} {cs : List Value} {xs : List (DataW H × List MemPlace)} (hf : ∀ (i : Nat) (f : Field), fs[i]? = some f → DataW.trod enc Try.prog w base (fun _ => true) held n f.type ((cs.drop f.offset).take (Try.prog.cellsOf f.type)) = xs[i]?)
    (i t o k : Nat) (hi : (fs[i]?).map (fun f => (f.type, f.offset)) = some (t, o)) (hk : Try.prog.cellsOf t = k) (hx : i < xs.length) : ∃ y, DataW.trod enc Try.prog w base (fun _ => true) held n t ((cs.drop o).take k) = some y := by
  rw [Option.map_eq_some_iff] at hi
  obtain ⟨f, h1, h2⟩ := hi
  injection h2 with h2 h3
  subst h2; subst h3; subst hk
  exact ⟨xs[i], by rw [hf i f h1]; exact List.getElem?_eq_getElem hx⟩
theorem some_of {α : Type} {l : List α} {i : Nat} {o : Option α} (h : o = l[i]?) (hi : i < l.length) : ∃ x, o = some x := ⟨l[i], by rw [h]; exact List.getElem?_eq_getElem hi⟩
theorem trod_is_slice {n : Nat} {t e : TypeId} {cs : List Value} {y : DataW H × List MemPlace} (ht : Try.prog.underlying t = some (.slice e)) (h : DataW.trod enc Try.prog w base (fun _ => true) held n t cs = some y) : ∃ A l c, cs = [.slice A l c] := by
  rcases open_slice ht h with ⟨hcs, _⟩ | ⟨a, len', cap', m, n, D, Pl, hcs, _⟩
  · exact ⟨_, _, _, hcs⟩
  · exact ⟨_, _, _, hcs⟩
end
end Go.Proofs.Ytcebnmhkbhhfiaa
