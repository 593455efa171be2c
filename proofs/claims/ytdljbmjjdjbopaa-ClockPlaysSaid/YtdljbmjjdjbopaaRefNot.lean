/- The contracts of the document's own notary: Find, Check, Seal, Copy. -/
import Derived.Test.YtdljbmjjdjbopaaNotary
import Derived.Deep.RegionLaw
import Derived.Maps.AppendAt
namespace Go.Proofs.Ytdljbmjjdjbopaa
open Go.RowKit Go.Maps

def parties (l : List Deed) : List Value := l.map fun d => Value.int .i64 d.1
def texts (l : List Deed) : List Value := l.map fun d => Value.string d.2
theorem parties_len (l : List Deed) : (parties l).length = l.length := by simp [parties]
theorem texts_len (l : List Deed) : (texts l).length = l.length := by simp [texts]
theorem parties_one (l : List Deed) : ∀ u ∈ parties l, u.oneCell' = true := by
  intro u hu
  obtain ⟨z, _, rfl⟩ := List.mem_map.1 hu
  rfl
theorem texts_one (l : List Deed) : ∀ u ∈ texts l, u.oneCell' = true := by
  intro u hu
  obtain ⟨z, _, rfl⟩ := List.mem_map.1 hu
  rfl
theorem idx_le {d : Deed} {k : Nat} : ∀ {l : List Deed}, l[k]? = some d → idx l d ≤ k := by
  induction k with
  | zero =>
    intro l h
    cases l with
    | nil => simp at h
    | cons x l =>
      obtain rfl : x = d := by simpa using h
      simp [idx]
  | succ k ih =>
    intro l h
    cases l with
    | nil => simp at h
    | cons x l =>
      have := ih (l := l) (by simpa using h)
      unfold idx
      split <;> omega
theorem idx_past {d x : Deed} {l : List Deed} {k : Nat} (h : k ≤ idx l d) (hx : l[k]? = some x) (hne : x ≠ d) : k + 1 ≤ idx l d := by
  rcases Nat.lt_or_ge k (idx l d) with h1 | h1
  · exact h1
  · have he : idx l d = k := by omega
    have hk : k < l.length := (List.getElem?_eq_some_iff.1 hx).1
    have hm : d ∈ l := Classical.byContradiction fun hn => by rw [idx_not hn] at he; omega
    have := idx_get hm
    rw [he, hx] at this
    exact absurd (Option.some.inj this) hne
section
variable {R R' : Nat → Prop} {w w' : World} {rb : Nat} {l : List Deed}
end

/-- append of any slice of one-cell elements (nil too) to a row of the call's own, and where the new one lies. -/
theorem run_app {P : Program} {w : World} (t ty : TypeId) (base : Nat) (e : TypeId) (i : TypeInfo) (z : Value) (bytes : Nat) (ht : P.underlying t = some (.slice e)) (hi : P.info? e = some i) (hz : i.zero = some z)
    (hsize : i.size = 1) (hby : i.bytes = bytes) (hzs : z.cells.size = 1)
    (v : Value) (n : Nat) (xs : List Value) (hown : w.ownsRow base e 1 v n xs)
    (B : Nat) (A : Option Addr) (m c : Nat) (news : List Value) (hl : news.length = m) (hh : Has w B A news) (hn : A = none → c = 0) (h1 : ∀ u ∈ news, u.oneCell' = true)
    (h63 : n + m ≤ maxLen) (hbytes : (n + m) * bytes ≤ 140737488355328) (hbase : base ≤ w.heap.size) :
    ∃ v' w', (Builtin.append_ #[t, t] ty #[v, .slice A m c]).run P w = .ok v' w' ∧ w'.ownsRow base e 1 v' (n + m) (xs ++ news) ∧ w.grownBy w' v.ownBlock ∧ (v'.ownBlock = v.ownBlock ∨ v'.ownBlock = some w.heap.size) := by
  cases A with
  | none =>
    have hm : news = [] := by
      cases news with
      | nil => rfl
      | cons u r =>
        obtain ⟨_, hA, _⟩ := hh 0 u rfl
        cases hA
    subst hm
    obtain rfl : m = 0 := by simpa using hl.symm
    obtain rfl := hn rfl
    exact ⟨v, w, run_append_owned_none (P := P) (w := w) base t ty e i 1 ht hi v n xs hown, by simpa using hown, World.grownBy.refl w _, Or.inl rfl⟩
  | some ad =>
    obtain ⟨v', w', h2, h3, h4, _, h5⟩ := run_append_own_at (P := P) w base t ty e i z 1 bytes ht hi hz hsize hby hzs (by decide) v n xs hown ad m c news (by omega) (fun j u hu => by
      obtain ⟨_, hA, _, hc⟩ := hh j u hu
      cases hA
      exact hc) h1 h63 hbytes hbase
    exact ⟨v', w', h2, h3, h4, h5⟩
theorem step_app {P : Program} {w : World} {ops : Array Oper} {o : Oper} {a : Act} {K : Act → World → Prop} {Q : Exit → Act → World → Prop} {E : Prop} (hgd : o.guard = none) (s x : Operand) (t : TypeId)
    (ho : o.op = .call { callee := .builtin .append, args := #[s, x], argTypes := #[t, t] })
    (base : Nat) (e : TypeId) (i : TypeInfo) (z : Value) (bytes : Nat) (ht : P.underlying t = some (.slice e)) (hi : P.info? e = some i) (hz : i.zero = some z)
    (hsize : i.size = 1) (hby : i.bytes = bytes) (hzs : z.cells.size = 1)
    (v : Value) (n : Nat) (xs : List Value) (hs : a.eval s = v) (hown : w.ownsRow base e 1 v n xs)
    (B : Nat) (A : Option Addr) (m c : Nat) (news : List Value) (hx : a.eval x = .slice A m c) (hl : news.length = m) (hh : Has w B A news) (hn : A = none → c = 0) (h1 : ∀ u ∈ news, u.oneCell' = true)
    (h63 : n + m ≤ maxLen) (hbytes : (n + m) * bytes ≤ 140737488355328) (hbase : base ≤ w.heap.size)
    (h : ∀ v' w', w'.ownsRow base e 1 v' (n + m) (xs ++ news) → w.grownBy w' v.ownBlock → (v'.ownBlock = v.ownBlock ∨ v'.ownBlock = some w.heap.size) → K (a.put o.dst v') w') :
    if Region.wanted o (yielded ops a.tmps) = true then Oper.wp P o a w K Q else E := by
  have hw : Region.wanted o (yielded ops a.tmps) = true := by simp [Region.wanted, hgd]
  rw [if_pos hw]
  obtain ⟨v', w', hr, h2, h3, h4⟩ := run_app (P := P) (w := w) t o.type base e i z bytes ht hi hz hsize hby hzs v n xs hown B A m c news hl hh hn h1 h63 hbytes hbase
  unfold Oper.wp execOp
  simp only [ho, resolve, invoke, builtin, Sem.run_bind, Sem.run_pure, Result.andThen_ok, List.map_toArray, List.map_cons, List.map_nil, hs, hx, hr]
  exact h v' w' h2 h3 h4
theorem wpList_app2 {P : Program} {w : World} {ops : Array Oper} {rest : List Oper} {o : Oper} {a : Act} {Q : Exit → Act → World → Prop} (hgd : o.guard = none) (s x : Operand) (t : TypeId)
    (ho : o.op = .call { callee := .builtin .append, args := #[s, x], argTypes := #[t, t] })
    (base : Nat) (e : TypeId) (i : TypeInfo) (z : Value) (bytes : Nat) (ht : P.underlying t = some (.slice e)) (hi : P.info? e = some i) (hz : i.zero = some z)
    (hsize : i.size = 1) (hby : i.bytes = bytes) (hzs : z.cells.size = 1)
    (v : Value) (n : Nat) (xs : List Value) (hs : a.eval s = v) (hown : w.ownsRow base e 1 v n xs)
    (B : Nat) (A : Option Addr) (m c : Nat) (news : List Value) (hx : a.eval x = .slice A m c) (hl : news.length = m) (hh : Has w B A news) (hn : A = none → c = 0) (h1 : ∀ u ∈ news, u.oneCell' = true)
    (h63 : n + m ≤ maxLen) (hbytes : (n + m) * bytes ≤ 140737488355328) (hbase : base ≤ w.heap.size)
    (h : ∀ v' w', w'.ownsRow base e 1 v' (n + m) (xs ++ news) → w.grownBy w' v.ownBlock → (v'.ownBlock = v.ownBlock ∨ v'.ownBlock = some w.heap.size) → wpList P ops Q rest (a.put o.dst v') w') : wpList P ops Q (o :: rest) a w := by
  refine wpList_plain hgd fun K hK => ?_
  obtain ⟨v', w', hr, h2, h3, h4⟩ := run_app (P := P) (w := w) t o.type base e i z bytes ht hi hz hsize hby hzs v n xs hown B A m c news hl hh hn h1 h63 hbytes hbase
  unfold Oper.wp
  simp [execOp, ho, resolve, invoke, builtin, hs, hx, hr, Result.andThen]
  exact hK _ _ (h v' w' h2 h3 h4)
theorem has_own0 {w : World} {base n c : Nat} {e : TypeId} {A : Option Addr} {xs : List Value} (h : w.ownsRow base e 1 (.slice A n c) n xs) : Has w w.heap.size A xs := Has.own h
theorem own_none0 {w : World} {base n c s : Nat} {e : TypeId} {A : Option Addr} {xs : List Value} (h : w.ownsRow base e s (.slice A n c) n xs) : A = none → c = 0 := by
  rintro rfl
  rcases h.2 with ⟨h1, _⟩ | ⟨g, cap, cur, h1, _⟩
  · injection h1
  · cases h1

theorem checkS_eq {l : List Deed} (hn : l.Nodup) {d : Deed} {m : Nat} : checkS l d ((m : Int) + 1) = decide (l[m]? = some d) := by
  unfold checkS
  by_cases h : l[m]? = some d
  · have hm := List.mem_of_getElem? h
    rw [decide_eq_true h, decide_eq_true hm, findS_in hm, idx_at hn h]; simp
  · rw [decide_eq_false h]
    by_cases hm : d ∈ l
    · rw [findS_in hm]
      have : ¬ ((idx l d : Int) + 1 = (m : Int) + 1) := fun e => h (by rw [← idx_get hm]; congr 1; omega)
      simp [this]
    · simp [hm]
theorem checkS_low {l : List Deed} {d : Deed} {k : Int} (h : k < 1) : checkS l d k = false := by
  unfold checkS
  by_cases hm : d ∈ l
  · rw [findS_in hm]
    have : ¬ ((idx l d : Int) + 1 = k) := by omega
    simp [this]
  · simp [hm]
end Go.Proofs.Ytdljbmjjdjbopaa
