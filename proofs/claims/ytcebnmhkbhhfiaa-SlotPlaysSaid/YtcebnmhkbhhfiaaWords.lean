/- Words on memory: a slice value that reads as a list of one-cell values ('Has'); what keeps it. -/
import Derived.Test.YtcebnmhkbhhfiaaRows
import Derived.WalkKit
import Derived.WalkSpells
import Derived.WalkLawsBesides
import Derived.Deep.AppendLies
import Derived.Laws.AppendOwnNone
namespace Go.Proofs.Ytcebnmhkbhhfiaa
open Go.RowKit

/-- The slice at A reads as xs, each value one cell, in a block below B. -/
def Has (w : World) (B : Nat) (A : Option Addr) (xs : List Value) : Prop :=
  ∀ j u, xs[j]? = some u → ∃ ad, A = some ad ∧ ad.block < B ∧ w.cell? (ad.add j) = some u

def u8s (l : List Int) : List Value := l.map (Value.int .u8)
theorem u8s_len (l : List Int) : (u8s l).length = l.length := by simp [u8s]
theorem u8s_app (l m : List Int) : u8s (l ++ m) = u8s l ++ u8s m := by simp [u8s]
theorem u8s_get (l : List Int) (j : Nat) (h : j < l.length) : (u8s l)[j]? = some (.int .u8 (l.getD j 0)) := by
  simp [u8s, List.getElem?_map, List.getElem?_eq_getElem h]

theorem addr_block (a : Addr) (n : Nat) : (a.add n).block = a.block := by
  cases n with
  | zero => rfl
  | succ n => rfl

theorem addr_at (g i : Nat) : (⟨g, 0, none⟩ : Addr).add i = ⟨g, i, none⟩ := by
  cases i <;> simp [Addr.add]

section
variable {w w' : World} {B B' : Nat} {A : Option Addr} {xs : List Value}
theorem Has.nil (w : World) (B : Nat) (A : Option Addr) : Has w B A [] := fun j u h => by simp at h
theorem Has.more (h : Has w B A xs) (hB : B ≤ B') : Has w B' A xs := fun j u hj => by
  obtain ⟨ad, e, hb, hc⟩ := h j u hj
  exact ⟨ad, e, by omega, hc⟩
theorem Has.below (h : Has w B A xs) (hb : Below B' w w') (hB : B ≤ B') : Has w' B A xs := fun j u hj => by
  obtain ⟨ad, e, hlt, hc⟩ := h j u hj
  exact ⟨ad, e, hlt, (hb.cell (by rw [addr_block]; omega)).trans hc⟩
theorem Has.at (h : Has w B A xs) {k : Nat} (hk : k < xs.length) : ∃ ad, A = some ad ∧ ad.block < B ∧ w.cell? (ad.add k) = some xs[k] :=
  h k _ (List.getElem?_eq_getElem hk)
theorem Has.own {base n c : Nat} {e : TypeId} (h : w.ownsRow base e 1 (.slice A n c) n xs) : Has w w.heap.size A xs := fun j u hj => by
  have hn : 0 < n := by
    have := h.1
    have hl : j < xs.length := (List.getElem?_eq_some_iff.1 hj).1
    omega
  obtain ⟨g, cap, hv, _, hlt⟩ := h.form hn
  have hA : A = some ⟨g, 0, none⟩ := by injection hv
  subst hA
  exact ⟨_, rfl, hlt, h.cells (g := g) rfl j u hj⟩
theorem Has.fresh (w : World) (cs : Array Value) (t : TypeId) : Has (w.alloc (.cells cs t)) (w.heap.size + 1) (some ⟨w.heap.size, 0, none⟩) cs.toList := fun j u hj => by
  refine ⟨_, rfl, Nat.lt_succ_self _, World.news_of_block (cs := cs) (t := t) (fr := (0, 0)) ?_ j u hj⟩
  show (w.heap.push _)[w.heap.size]? = _
  simp
end
theorem Has.take {w : World} {B : Nat} {A : Option Addr} {zs : List Int} (h : Has w B A (u8s zs)) (k : Nat) : Has w B A (u8s (zs.take k)) := fun j u hj => by
  refine h j u ?_
  unfold u8s at hj ⊢
  rw [List.map_take, List.getElem?_take] at hj
  split at hj
  · exact hj
  · cases hj
theorem Has.drew {w : World} {B : Nat} {A : Option Addr} {xs : List Value} (h : Has w B A xs) : Has w.drew B A xs := h
theorem Has.drewN {w : World} {B : Nat} {A : Option Addr} {xs : List Value} (h : Has w B A xs) (n : Nat) : Has (w.drewN n) B A xs := h
theorem addr_add (a : Addr) (i j : Nat) : (a.add i).add j = a.add (i + j) := by
  cases i with
  | zero => simp [Addr.add]
  | succ i =>
    cases j with
    | zero => rfl
    | succ j => simp [Addr.add]; omega
/-- A part of it. -/
theorem Has.cut {w : World} {B : Nat} {ad : Addr} {zs : List Int} (h : Has w B (some ad) (u8s zs)) (p k : Nat) : Has w B (some (ad.add p)) (u8s ((zs.drop p).take k)) := fun j u hj => by
  have hj2 : (u8s zs)[p + j]? = some u := by
    unfold u8s at hj ⊢
    rw [List.map_take, List.map_drop, List.getElem?_take] at hj
    split at hj
    · rwa [List.getElem?_drop] at hj
    · cases hj
  obtain ⟨ad', hA, hb, hc⟩ := h (p + j) u hj2
  cases hA
  exact ⟨_, rfl, by rw [addr_block]; exact hb, by rw [addr_add]; exact hc⟩
/-- A slice that came in, as a list of numbers of one kind. -/
structure IsList (k : IntKind) (w : World) (A : Option Addr) (zs : List Int) (c : Nat) : Prop where
  le : zs.length ≤ c
  most : c ≤ maxLen
  has : Has w w.heap.size A (zs.map (Value.int k))
  fits : ∀ z ∈ zs, (Lit.int k z).wf = true
  nil : A = none → c = 0
theorem block_lt {w : World} {p : Addr} {u : Value} (h : w.cell? p = some u) : p.block < w.heap.size := by
  rcases Nat.lt_or_ge p.block w.heap.size with h1 | h1
  · exact h1
  · have : w.heap[p.block]? = none := Array.getElem?_eq_none h1
    simp [World.cell?, this] at h
theorem has_rows {w : World} {base n c s : Nat} {e : TypeId} {A : Option Addr} {xs : List Value} (h : w.ownsRow base e s (.slice A n c) n xs) : Has w w.heap.size A xs := fun j u hj => by
  have hn : 0 < n := by
    rcases Nat.eq_zero_or_pos n with h0 | h0
    · subst h0
      have := h.1
      have hl : j < xs.length := (List.getElem?_eq_some_iff.1 hj).1
      omega
    · exact h0
  obtain ⟨g, cap, hv, _, hlt⟩ := h.form hn
  have hA : A = some ⟨g, 0, none⟩ := by injection hv
  subst hA
  exact ⟨_, rfl, hlt, h.cells (g := g) rfl j u hj⟩
theorem Has.tight {w : World} {B : Nat} {A : Option Addr} {xs : List Value} (h : Has w B A xs) : Has w w.heap.size A xs := fun j u hj => by
  obtain ⟨ad, e, _, hc⟩ := h j u hj
  have := block_lt hc
  rw [addr_block] at this
  exact ⟨ad, e, this, hc⟩
theorem IsList.none {k : IntKind} {w : World} : IsList k w Option.none [] 0 := ⟨Nat.le_refl _, Nat.zero_le _, Has.nil _ _ _, by simp, fun _ => rfl⟩
theorem IsList.row {k : IntKind} {w : World} {x : Addr} {l c : Nat} {zs : List Int} (hl : l ≤ c) (hm : c ≤ maxLen) (hz : zs.length = c)
    (hcell : ∀ i, i < zs.length → w.cell? (x.add i) = some (.int k (zs.getD i 0))) (hwz : ∀ n ∈ zs, (Lit.int k n).wf = true) : IsList k w (some x) (zs.take l) c := by
  refine ⟨by simp; omega, hm, fun j u hj => ?_, fun z h => hwz z (List.mem_of_mem_take h), fun h => by cases h⟩
  have hj1 : j < (zs.take l).length := by
    have := (List.getElem?_eq_some_iff.1 hj).1
    simpa using this
  have hj2 : j < zs.length := by simp at hj1; omega
  have h2 := hcell j hj2
  refine ⟨x, rfl, ?_, ?_⟩
  · have := block_lt h2; rwa [addr_block] at this
  · rw [h2, ← hj]
    simp [List.getElem?_take, List.getElem?_eq_getElem hj2]
    simp at hj1; omega
theorem wf_u8 {z : Int} (h : (Lit.int .u8 z).wf = true) : 0 ≤ z ∧ z ≤ 255 := by
  simp only [Lit.wf, Bool.and_eq_true, decide_eq_true_eq] at h
  exact h
theorem wf_i64 {z : Int} (h : (Lit.int .i64 z).wf = true) : -9223372036854775808 ≤ z ∧ z ≤ 9223372036854775807 := by
  simp only [Lit.wf, Bool.and_eq_true, decide_eq_true_eq] at h
  exact h
/-- A number of it, of whatever kind. -/
theorem Has.int {w : World} {B : Nat} {A : Option Addr} {k : IntKind} {zs : List Int} (h : Has w B A (zs.map (Value.int k))) {j : Nat} (hj : j < zs.length) :
    ∃ ad z, A = some ad ∧ ad.block < B ∧ w.cell? (ad.add j) = some (.int k z) ∧ zs.drop j = z :: zs.drop (j + 1) ∧ z ∈ zs := by
  obtain ⟨ad, hA, hb, hc⟩ := h.at (k := j) (by rw [List.length_map]; exact hj)
  exact ⟨ad, zs[j], hA, hb, by rw [hc]; simp, List.drop_eq_getElem_cons hj, List.getElem_mem hj⟩
/-- Rows of unlike element types lie in unlike blocks. -/
theorem own_apart {w : World} {b b' n n' s s' : Nat} {e e' : TypeId} {v v' : Value} {xs xs' : List Value} (h : w.ownsRow b e s v n xs) (h' : w.ownsRow b' e' s' v' n' xs') (hne : e ≠ e') :
    v.ownBlock = none ∨ v.ownBlock ≠ v'.ownBlock := by
  rcases h.2 with ⟨rfl, _⟩ | ⟨g, cap, cur, rfl, _, hg, _⟩
  · exact Or.inl rfl
  · refine Or.inr fun hb => ?_
    rcases h'.2 with ⟨rfl, _⟩ | ⟨g', cap', cur', rfl, _, hg', _⟩
    · cases hb
    · injection hb with hb
      have hb : g = g' := hb
      subst hb
      rw [hg] at hg'
      injection hg' with hg'
      injection hg' with _ he
      exact hne he
/-- A byte of it. -/
theorem Has.byte {w : World} {B : Nat} {A : Option Addr} {zs : List Int} (h : Has w B A (u8s zs)) {k : Nat} (hk : k < zs.length) :
    ∃ ad z, A = some ad ∧ ad.block < B ∧ w.cell? (ad.add k) = some (.int .u8 z) ∧ zs.drop k = z :: zs.drop (k + 1) ∧ z ∈ zs := by
  obtain ⟨ad, hA, hb, hc⟩ := h.at (k := k) (by rw [u8s_len]; exact hk)
  exact ⟨ad, zs[k], hA, hb, by rw [hc]; simp [u8s], List.drop_eq_getElem_cons hk, List.getElem_mem hk⟩
/-- A row that the call owns is a slice value. -/
theorem own_slice {w : World} {base n : Nat} {e : TypeId} {size : Nat} {v : Value} {xs : List Value} (h : w.ownsRow base e size v n xs) : ∃ A c, v = .slice A n c ∧ n ≤ c ∧ c ≤ maxLen := by
  rcases h.2 with ⟨rfl, rfl⟩ | ⟨g, cap, cur, rfl, _, _, h1, h2, _⟩
  · exact ⟨none, 0, rfl, Nat.le_refl _, by simp [maxLen]⟩
  · exact ⟨_, _, rfl, h1, h2⟩
theorem u8s_one (l : List Int) : ∀ u ∈ u8s l, u.oneCell' = true := by
  intro u hu
  obtain ⟨z, _, rfl⟩ := List.mem_map.1 hu
  rfl
/-- append of any slice of one-cell elements (nil too) to a row of the call's own. -/
theorem wpList_app {P : Program} {w : World} {ops : Array Oper} {rest : List Oper} {o : Oper} {a : Act} {Q : Exit → Act → World → Prop} (hgd : o.guard = none) (s x : Operand) (t : TypeId)
    (ho : o.op = .call { callee := .builtin .append, args := #[s, x], argTypes := #[t, t] })
    (base : Nat) (e : TypeId) (i : TypeInfo) (z : Value) (bytes : Nat) (ht : P.underlying t = some (.slice e)) (hi : P.info? e = some i) (hz : i.zero = some z)
    (hsize : i.size = 1) (hby : i.bytes = bytes) (hzs : z.cells.size = 1)
    (v : Value) (n : Nat) (xs : List Value) (hs : a.eval s = v) (hown : w.ownsRow base e 1 v n xs)
    (B : Nat) (A : Option Addr) (m c : Nat) (news : List Value) (hx : a.eval x = .slice A m c) (hl : news.length = m) (hh : Has w B A news) (hn : A = none → c = 0) (h1 : ∀ u ∈ news, u.oneCell' = true)
    (h63 : n + m ≤ maxLen) (hbytes : (n + m) * bytes ≤ 140737488355328) (hbase : base ≤ w.heap.size)
    (h : ∀ v' w', w'.ownsRow base e 1 v' (n + m) (xs ++ news) → w.grownBy w' v.ownBlock → Below base w w' → wpList P ops Q rest (a.put o.dst v') w') : wpList P ops Q (o :: rest) a w := by
  cases A with
  | none =>
    have hm : news = [] := by
      cases news with
      | nil => rfl
      | cons u r =>
        obtain ⟨_, hA, _⟩ := hh 0 u rfl
        cases hA
    subst hm
    obtain rfl : m = 0 := by simpa using hl.symm
    obtain rfl := hn rfl
    refine wpList_append_own_none hgd s x t ho base e i 1 ht hi v n xs hs hown hx (h v w ?_ (World.grownBy.refl w _) (Below.refl _ _))
    simpa using hown
  | some ad =>
    refine wpList_append_own w hgd s x t ho base e i z 1 bytes ht hi hz hsize hby hzs (by decide) v n xs hs hown ad m c news hx (by omega) (fun j u hu => ?_) h1 h63 hbytes hbase
      (fun v' w' h2 h3 _ => h v' w' h2 h3 ((Below.refl base w).grown h3 hbase (hown.lt · · |>.1)))
    obtain ⟨ad', hA, _, hc⟩ := hh j u hu
    cases hA
    exact hc
theorem below_own {w w' : World} {b n s : Nat} {e : TypeId} {v : Value} {xs : List Value} {B : Nat} (h : w.ownsRow b e s v n xs) (hb : Below B w w') (hB : w.heap.size ≤ B) : w'.ownsRow b e s v n xs := by
  refine ⟨h.1, ?_⟩
  rcases h.2 with h2 | ⟨g, cap, cur, hv, hg, hh, r⟩
  · exact Or.inl h2
  · have hlt : g < w.heap.size := by
      rcases Nat.lt_or_ge g w.heap.size with h3 | h3
      · exact h3
      · rw [Array.getElem?_eq_none h3] at hh; cases hh
    exact Or.inr ⟨g, cap, cur, hv, hg, (hb.block g (by omega)).trans hh, r⟩
end Go.Proofs.Ytcebnmhkbhhfiaa
