/- Words on memory: a slice value that reads as a list of one-cell values ('Has'); what keeps it. -/
import Derived.Test.YtfjgcpeaghlcgaaRows
import Derived.WalkKit
import Derived.WalkSpells
import Derived.WalkLawsBesides
import Derived.Deep.AppendLies
namespace Go.Proofs.Ytfjgcpeaghlcgaa
open Go.RowKit

/-- The slice at A reads as xs, each value one cell, in a block below B. -/
def Has (w : World) (B : Nat) (A : Option Addr) (xs : List Value) : Prop :=
  ∀ j u, xs[j]? = some u → ∃ ad, A = some ad ∧ ad.block < B ∧ w.cell? (ad.add j) = some u

def u8s (l : List Int) : List Value := l.map (Value.int .u8)
theorem u8s_len (l : List Int) : (u8s l).length = l.length := by simp [u8s]
theorem u8s_app (l m : List Int) : u8s (l ++ m) = u8s l ++ u8s m := by simp [u8s]
theorem u8s_get (l : List Int) (j : Nat) (h : j < l.length) : (u8s l)[j]? = some (.int .u8 (l.getD j 0)) := by
  simp [u8s, List.getElem?_map, List.getElem?_eq_getElem h]

theorem addr_block (a : Addr) (n : Nat) : (a.add n).block = a.block := by
  cases n with
  | zero => rfl
  | succ n => rfl

section
variable {w w' : World} {B B' : Nat} {A : Option Addr} {xs : List Value}
theorem Has.nil (w : World) (B : Nat) (A : Option Addr) : Has w B A [] := fun j u h => by simp at h
theorem Has.more (h : Has w B A xs) (hB : B ≤ B') : Has w B' A xs := fun j u hj => by
  obtain ⟨ad, e, hb, hc⟩ := h j u hj
  exact ⟨ad, e, by omega, hc⟩
theorem Has.below (h : Has w B A xs) (hb : Below B' w w') (hB : B ≤ B') : Has w' B A xs := fun j u hj => by
  obtain ⟨ad, e, hlt, hc⟩ := h j u hj
  exact ⟨ad, e, hlt, (hb.cell (by rw [addr_block]; omega)).trans hc⟩
theorem Has.at (h : Has w B A xs) {k : Nat} (hk : k < xs.length) : ∃ ad, A = some ad ∧ ad.block < B ∧ w.cell? (ad.add k) = some xs[k] :=
  h k _ (List.getElem?_eq_getElem hk)
theorem Has.own {base n c : Nat} {e : TypeId} (h : w.ownsRow base e 1 (.slice A n c) n xs) : Has w w.heap.size A xs := fun j u hj => by
  have hn : 0 < n := by
    have := h.1
    have hl : j < xs.length := (List.getElem?_eq_some_iff.1 hj).1
    omega
  obtain ⟨g, cap, hv, _, hlt⟩ := h.form hn
  have hA : A = some ⟨g, 0, none⟩ := by injection hv
  subst hA
  exact ⟨_, rfl, hlt, h.cells (g := g) rfl j u hj⟩
theorem Has.fresh (w : World) (cs : Array Value) (t : TypeId) : Has (w.alloc (.cells cs t)) (w.heap.size + 1) (some ⟨w.heap.size, 0, none⟩) cs.toList := fun j u hj => by
  refine ⟨_, rfl, Nat.lt_succ_self _, World.news_of_block (cs := cs) (t := t) (fr := (0, 0)) ?_ j u hj⟩
  show (w.heap.push _)[w.heap.size]? = _
  simp
end
/-- A slice that came in, as a list of numbers of one kind. -/
structure IsList (k : IntKind) (w : World) (A : Option Addr) (zs : List Int) (c : Nat) : Prop where
  le : zs.length ≤ c
  most : c ≤ maxLen
  has : Has w w.heap.size A (zs.map (Value.int k))
  fits : ∀ z ∈ zs, (Lit.int k z).wf = true
theorem block_lt {w : World} {p : Addr} {u : Value} (h : w.cell? p = some u) : p.block < w.heap.size := by
  rcases Nat.lt_or_ge p.block w.heap.size with h1 | h1
  · exact h1
  · have : w.heap[p.block]? = none := Array.getElem?_eq_none h1
    simp [World.cell?, this] at h
theorem IsList.none {k : IntKind} {w : World} : IsList k w Option.none [] 0 := ⟨Nat.le_refl _, Nat.zero_le _, Has.nil _ _ _, by simp⟩
theorem IsList.row {k : IntKind} {w : World} {x : Addr} {l c : Nat} {zs : List Int} (hl : l ≤ c) (hm : c ≤ maxLen) (hz : zs.length = c)
    (hcell : ∀ i, i < zs.length → w.cell? (x.add i) = some (.int k (zs.getD i 0))) (hwz : ∀ n ∈ zs, (Lit.int k n).wf = true) : IsList k w (some x) (zs.take l) c := by
  refine ⟨by simp; omega, hm, fun j u hj => ?_, fun z h => hwz z (List.mem_of_mem_take h)⟩
  have hj1 : j < (zs.take l).length := by
    have := (List.getElem?_eq_some_iff.1 hj).1
    simpa using this
  have hj2 : j < zs.length := by simp at hj1; omega
  have h2 := hcell j hj2
  refine ⟨x, rfl, ?_, ?_⟩
  · have := block_lt h2; rwa [addr_block] at this
  · rw [h2, ← hj]
    simp [List.getElem?_take, List.getElem?_eq_getElem hj2]
    simp at hj1; omega
theorem wf_u8 {z : Int} (h : (Lit.int .u8 z).wf = true) : 0 ≤ z ∧ z ≤ 255 := by
  simp only [Lit.wf, Bool.and_eq_true, decide_eq_true_eq] at h
  exact h
theorem wf_i64 {z : Int} (h : (Lit.int .i64 z).wf = true) : -9223372036854775808 ≤ z ∧ z ≤ 9223372036854775807 := by
  simp only [Lit.wf, Bool.and_eq_true, decide_eq_true_eq] at h
  exact h
/-- A byte of it. -/
theorem Has.byte {w : World} {B : Nat} {A : Option Addr} {zs : List Int} (h : Has w B A (u8s zs)) {k : Nat} (hk : k < zs.length) :
    ∃ ad z, A = some ad ∧ ad.block < B ∧ w.cell? (ad.add k) = some (.int .u8 z) ∧ zs.drop k = z :: zs.drop (k + 1) ∧ z ∈ zs := by
  obtain ⟨ad, hA, hb, hc⟩ := h.at (k := k) (by rw [u8s_len]; exact hk)
  exact ⟨ad, zs[k], hA, hb, by rw [hc]; simp [u8s], List.drop_eq_getElem_cons hk, List.getElem_mem hk⟩
/-- A row that the call owns is a slice value. -/
theorem own_slice {w : World} {base n : Nat} {e : TypeId} {size : Nat} {v : Value} {xs : List Value} (h : w.ownsRow base e size v n xs) : ∃ A c, v = .slice A n c ∧ n ≤ c ∧ c ≤ maxLen := by
  rcases h.2 with ⟨rfl, rfl⟩ | ⟨g, cap, cur, rfl, _, _, h1, h2, _⟩
  · exact ⟨none, 0, rfl, Nat.le_refl _, by simp [maxLen]⟩
  · exact ⟨_, _, rfl, h1, h2⟩
end Go.Proofs.Ytfjgcpeaghlcgaa
