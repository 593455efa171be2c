/- The contracts of the document's own notary: Find, Check, Seal, Copy. -/
import Derived.Test.YtbegjadohamkkaaGreatOS0
import Derived.Deep.RegionLaw
import Derived.Maps.AppendAt
namespace Go.Proofs.YtbegjadohamkkaaGreat
open Go.RowKit Go.Maps

def parties (l : List Deed) : List Value := l.map fun d => Value.int .i64 d.1
def texts (l : List Deed) : List Value := l.map fun d => Value.string d.2
theorem idx_le {d : Deed} {k : Nat} : ∀ {l : List Deed}, l[k]? = some d → idx l d ≤ k := by
  induction k with
  | zero =>
    intro l h
    cases l with
    | nil => simp at h
    | cons x l =>
      obtain rfl : x = d := by simpa using h
      simp [idx]
  | succ k ih =>
    intro l h
    cases l with
    | nil => simp at h
    | cons x l =>
      have := ih (l := l) (by simpa using h)
      unfold idx
      split <;> omega
theorem idx_past {d x : Deed} {l : List Deed} {k : Nat} (h : k ≤ idx l d) (hx : l[k]? = some x) (hne : x ≠ d) : k + 1 ≤ idx l d := by
  rcases Nat.lt_or_ge k (idx l d) with h1 | h1
  · exact h1
  · have he : idx l d = k := by omega
    have hk : k < l.length := (List.getElem?_eq_some_iff.1 hx).1
    have hm : d ∈ l := Classical.byContradiction fun hn => by rw [idx_not hn] at he; omega
    have := idx_get hm
    rw [he, hx] at this
    exact absurd (Option.some.inj this) hne
/-- The document's notary in block rb tells the list; it, and its rows, lie in the zone R. -/
structure Rf (R : Nat → Prop) (w : World) (rb : Nat) (l : List Deed) : Prop where
  zone : R rb
  ex : ∃ v1 v2, Blk w rb 97 #[v1, v2] ∧ w.ownsRow 0 3 1 v1 l.length (parties l) ∧ w.ownsRow 0 9 1 v2 l.length (texts l) ∧ (∀ g, v1.ownBlock = some g → R g) ∧ ∀ g, v2.ownBlock = some g → R g
section
variable {R R' : Nat → Prop} {w w' : World} {rb : Nat} {l : List Deed}
theorem Rf.lt (h : Rf R w rb l) : rb < w.heap.size := by
  obtain ⟨_, _, h1, _⟩ := h.ex
  exact h1.lt
theorem Rf.mono (h : Rf R w rb l) (hz : ∀ k, k < w.heap.size → R k → R' k) : Rf R' w rb l := by
  obtain ⟨v1, v2, h1, h2, h3, h4, h5⟩ := h.ex
  exact ⟨hz _ h.lt h.zone, v1, v2, h1, h2, h3, fun g hg => hz g (h2.lt g hg).2 (h4 g hg), fun g hg => hz g (h3.lt g hg).2 (h5 g hg)⟩
theorem Rf.kept {Z : Nat → Prop} (h : Rf R w rb l) (ht : Turn Z w w') (hz : ∀ k, k < w.heap.size → R k → ¬ Z k) : Rf R w' rb l := by
  obtain ⟨v1, v2, h1, h2, h3, h4, h5⟩ := h.ex
  exact ⟨h.zone, v1, v2, ht.blk h1 (hz _ h.lt h.zone), ht.own h2 (fun g hg => hz g (h2.lt g hg).2 (h4 g hg)), ht.own h3 (fun g hg => hz g (h3.lt g hg).2 (h5 g hg)), h4, h5⟩
theorem Rf.below (h : Rf R w rb l) (hb : Below w.heap.size w w') : Rf R w' rb l := h.kept (Turn.of_below (Z := fun _ => False) hb) (fun _ _ _ => id)
theorem Rf.drewN (h : Rf R w rb l) (n : Nat) : Rf R (w.drewN n) rb l := h.kept ((Turn.refl (fun _ => False) w).drewN n) (fun _ _ _ => id)
end

/-- append of any slice of one-cell elements (nil too) to a row of the call's own, and where the new one lies. -/
theorem run_app {P : Program} {w : World} (t ty : TypeId) (base : Nat) (e : TypeId) (i : TypeInfo) (z : Value) (bytes : Nat) (ht : P.underlying t = some (.slice e)) (hi : P.info? e = some i) (hz : i.zero = some z)
    (hsize : i.size = 1) (hby : i.bytes = bytes) (hzs : z.cells.size = 1)
    (v : Value) (n : Nat) (xs : List Value) (hown : w.ownsRow base e 1 v n xs)
    (B : Nat) (A : Option Addr) (m c : Nat) (news : List Value) (hl : news.length = m) (hh : Has w B A news) (hn : A = none → c = 0) (h1 : ∀ u ∈ news, u.oneCell' = true)
    (h63 : n + m ≤ maxLen) (hbytes : (n + m) * bytes ≤ 140737488355328) (hbase : base ≤ w.heap.size) :
    ∃ v' w', (Builtin.append_ #[t, t] ty #[v, .slice A m c]).run P w = .ok v' w' ∧ w'.ownsRow base e 1 v' (n + m) (xs ++ news) ∧ w.grownBy w' v.ownBlock ∧ (v'.ownBlock = v.ownBlock ∨ v'.ownBlock = some w.heap.size) := by
  cases A with
  | none =>
    have hm : news = [] := by
      cases news with
      | nil => rfl
      | cons u r =>
        obtain ⟨_, hA, _⟩ := hh 0 u rfl
        cases hA
    subst hm
    obtain rfl : m = 0 := by simpa using hl.symm
    obtain rfl := hn rfl
    exact ⟨v, w, run_append_owned_none (P := P) (w := w) base t ty e i 1 ht hi v n xs hown, by simpa using hown, World.grownBy.refl w _, Or.inl rfl⟩
  | some ad =>
    obtain ⟨v', w', h2, h3, h4, _, h5⟩ := run_append_own_at (P := P) w base t ty e i z 1 bytes ht hi hz hsize hby hzs (by decide) v n xs hown ad m c news (by omega) (fun j u hu => by
      obtain ⟨_, hA, _, hc⟩ := hh j u hu
      cases hA
      exact hc) h1 h63 hbytes hbase
    exact ⟨v', w', h2, h3, h4, h5⟩
theorem step_app {P : Program} {w : World} {ops : Array Oper} {o : Oper} {a : Act} {K : Act → World → Prop} {Q : Exit → Act → World → Prop} {E : Prop} (hgd : o.guard = none) (s x : Operand) (t : TypeId)
    (ho : o.op = .call { callee := .builtin .append, args := #[s, x], argTypes := #[t, t] })
    (base : Nat) (e : TypeId) (i : TypeInfo) (z : Value) (bytes : Nat) (ht : P.underlying t = some (.slice e)) (hi : P.info? e = some i) (hz : i.zero = some z)
    (hsize : i.size = 1) (hby : i.bytes = bytes) (hzs : z.cells.size = 1)
    (v : Value) (n : Nat) (xs : List Value) (hs : a.eval s = v) (hown : w.ownsRow base e 1 v n xs)
    (B : Nat) (A : Option Addr) (m c : Nat) (news : List Value) (hx : a.eval x = .slice A m c) (hl : news.length = m) (hh : Has w B A news) (hn : A = none → c = 0) (h1 : ∀ u ∈ news, u.oneCell' = true)
    (h63 : n + m ≤ maxLen) (hbytes : (n + m) * bytes ≤ 140737488355328) (hbase : base ≤ w.heap.size)
    (h : ∀ v' w', w'.ownsRow base e 1 v' (n + m) (xs ++ news) → w.grownBy w' v.ownBlock → (v'.ownBlock = v.ownBlock ∨ v'.ownBlock = some w.heap.size) → K (a.put o.dst v') w') :
    if Region.wanted o (yielded ops a.tmps) = true then Oper.wp P o a w K Q else E := by
  have hw : Region.wanted o (yielded ops a.tmps) = true := by simp [Region.wanted, hgd]
  rw [if_pos hw]
  obtain ⟨v', w', hr, h2, h3, h4⟩ := run_app (P := P) (w := w) t o.type base e i z bytes ht hi hz hsize hby hzs v n xs hown B A m c news hl hh hn h1 h63 hbytes hbase
  unfold Oper.wp execOp
  simp only [ho, resolve, invoke, builtin, Sem.run_bind, Sem.run_pure, Result.andThen_ok, List.map_toArray, List.map_cons, List.map_nil, hs, hx, hr]
  exact h v' w' h2 h3 h4
theorem wpList_app2 {P : Program} {w : World} {ops : Array Oper} {rest : List Oper} {o : Oper} {a : Act} {Q : Exit → Act → World → Prop} (hgd : o.guard = none) (s x : Operand) (t : TypeId)
    (ho : o.op = .call { callee := .builtin .append, args := #[s, x], argTypes := #[t, t] })
    (base : Nat) (e : TypeId) (i : TypeInfo) (z : Value) (bytes : Nat) (ht : P.underlying t = some (.slice e)) (hi : P.info? e = some i) (hz : i.zero = some z)
    (hsize : i.size = 1) (hby : i.bytes = bytes) (hzs : z.cells.size = 1)
    (v : Value) (n : Nat) (xs : List Value) (hs : a.eval s = v) (hown : w.ownsRow base e 1 v n xs)
    (B : Nat) (A : Option Addr) (m c : Nat) (news : List Value) (hx : a.eval x = .slice A m c) (hl : news.length = m) (hh : Has w B A news) (hn : A = none → c = 0) (h1 : ∀ u ∈ news, u.oneCell' = true)
    (h63 : n + m ≤ maxLen) (hbytes : (n + m) * bytes ≤ 140737488355328) (hbase : base ≤ w.heap.size)
    (h : ∀ v' w', w'.ownsRow base e 1 v' (n + m) (xs ++ news) → w.grownBy w' v.ownBlock → (v'.ownBlock = v.ownBlock ∨ v'.ownBlock = some w.heap.size) → wpList P ops Q rest (a.put o.dst v') w') : wpList P ops Q (o :: rest) a w := by
  refine wpList_plain hgd fun K hK => ?_
  obtain ⟨v', w', hr, h2, h3, h4⟩ := run_app (P := P) (w := w) t o.type base e i z bytes ht hi hz hsize hby hzs v n xs hown B A m c news hl hh hn h1 h63 hbytes hbase
  unfold Oper.wp
  simp [execOp, ho, resolve, invoke, builtin, hs, hx, hr, Result.andThen]
  exact hK _ _ (h v' w' h2 h3 h4)
theorem has_own0 {w : World} {base n c : Nat} {e : TypeId} {A : Option Addr} {xs : List Value} (h : w.ownsRow base e 1 (.slice A n c) n xs) : Has w w.heap.size A xs := Has.own h
set_option maxHeartbeats 1000000 in
theorem rfind_any {R : Nat → Prop} {w : World} {rb : Nat} {l : List Deed} (h : Rf R w rb l) (hlen : l.length ≤ 1000000) {p : Int} {A : Option Addr} {n c B : Nat} {zs : List Int} (hh : Has w B A (u8s zs)) (hn : zs.length = n) :
    Calls Tryz.prog 149 #[.pointer (some ⟨rb, 0, none⟩), .int .i64 p, .slice A n c] w fun e w' => e = .returned (.tuple #[.int .i64 (findS l (p, strOfNums zs)), .bool (decide ((p, strOfNums zs) ∈ l))]) ∧ w = w' := by
  obtain ⟨v1, v2, hb, ho1, ho2, _, _⟩ := h.ex
  obtain ⟨A1, c1, rfl, _, _⟩ := own_slice ho1
  obtain ⟨A2, c2, rfl, _, _⟩ := own_slice ho2
  have hc := conv_has (c := c) hh hn
  obtain ⟨s, hs⟩ : ∃ s, strOfNums zs = s := ⟨_, rfl⟩
  rw [hs] at hc ⊢
  have hcell0 := hb.cell 0
  have hcell1 := hb.cell 1
  simp only [List.getElem?_toArray, List.getElem?_cons_zero, List.getElem?_cons_succ] at hcell0 hcell1
  have H1 := Lib.hid (has_own0 ho1)
  have H2 := Lib.hid (has_own0 ho2)
  clear h hb ho1 ho2 hs hh
  go_enter Tryz.func149, Tryz.ntmps149
  go_wp2
  go_loop [9] (fun x => ∃ k : Nat, x = .int .i64 k ∧ k ≤ l.length ∧ Hid (k ≤ idx l (p, s))) (fun x => l.length - (intOf x).toNat)
  case atStart => exact ⟨0, rfl, Nat.zero_le _, Nat.zero_le _⟩
  case round =>
    obtain ⟨k, rfl, hk, HK⟩ := hrel
    by_cases hlt : k < l.length
    · obtain ⟨a1, rfl, hba, ha⟩ := H1.out k (.int .i64 l[k].1) (by simp [parties, List.getElem?_eq_getElem hlt])
      obtain ⟨a2, rfl, hbb, hb⟩ := H2.out k (.string l[k].2) (by simp [texts, List.getElem?_eq_getElem hlt])
      obtain ⟨x, hx⟩ : ∃ x, l[k] = x := ⟨_, rfl⟩
      rw [hx] at ha hb
      have HX := Lib.hid (show l[k]? = some x by rw [List.getElem?_eq_getElem hlt, hx])
      clear hx hba hbb
      by_cases hp : x.1 = p
      · by_cases ht : x.2 = s
        · have HE := Lib.hid (show l[k]? = some (p, s) by rw [HX.out, ← hp, ← ht])
          have HD := Lib.hid (show findS l (p, s) = (k : Int) + 1 ∧ decide ((p, s) ∈ l) = true by
            have hm := List.mem_of_getElem? HE.out
            have h1 := idx_le HE.out
            have h2 := HK.out
            rw [findS_in hm, decide_eq_true hm, show idx l (p, s) = k by omega]
            exact ⟨rfl, rfl⟩)
          have hq : (x.2.toList == s.toList) = true := by rw [str_eq, ht]; simp
          rw [hp] at ha
          clear hp ht
          go_wp2
          go_ret2
          rw [HD.out.1, HD.out.2]
          exact ⟨rfl, rfl⟩
        · have HD := Lib.hid (idx_past HK.out HX.out (fun e => ht (by rw [e])))
          have hq : (x.2.toList == s.toList) = false := by rw [str_eq, decide_eq_false ht]
          rw [hp] at ha
          clear hp ht
          go_wp2
          go_round
          case rel => exact ⟨k + 1, by go_num, by omega, HD.out⟩
          case measure => simp [intOf]; omega
      · have HD := Lib.hid (idx_past HK.out HX.out (fun e => hp (by rw [e])))
        go_wp2
        go_round
        case rel => exact ⟨k + 1, by go_num, by omega, HD.out⟩
        case measure => simp [intOf]; omega
    · have HD := Lib.hid (show findS l (p, s) = 0 ∧ decide ((p, s) ∈ l) = false by
        have hm : (p, s) ∉ l := fun hm => by have := idx_lt hm; have := HK.out; omega
        exact ⟨findS_out hm, decide_eq_false hm⟩)
      go_wp2
      go_ret2
      rw [HD.out.1, HD.out.2]
      exact ⟨rfl, rfl⟩

theorem checkS_eq {l : List Deed} (hn : l.Nodup) {d : Deed} {m : Nat} : checkS l d ((m : Int) + 1) = decide (l[m]? = some d) := by
  unfold checkS
  by_cases h : l[m]? = some d
  · have hm := List.mem_of_getElem? h
    rw [decide_eq_true h, decide_eq_true hm, findS_in hm, idx_at hn h]; simp
  · rw [decide_eq_false h]
    by_cases hm : d ∈ l
    · rw [findS_in hm]
      have : ¬ ((idx l d : Int) + 1 = (m : Int) + 1) := fun e => h (by rw [← idx_get hm]; congr 1; omega)
      simp [this]
    · simp [hm]
theorem checkS_low {l : List Deed} {d : Deed} {k : Int} (h : k < 1) : checkS l d k = false := by
  unfold checkS
  by_cases hm : d ∈ l
  · rw [findS_in hm]
    have : ¬ ((idx l d : Int) + 1 = k) := by omega
    simp [this]
  · simp [hm]
set_option maxHeartbeats 1000000 in
theorem rcheck_any {R : Nat → Prop} {w : World} {rb : Nat} {l : List Deed} (h : Rf R w rb l) (hnd : l.Nodup) {p k : Int} (hk : fit k) {A : Option Addr} {n c B : Nat} {zs : List Int} (hh : Has w B A (u8s zs)) (hn : zs.length = n) :
    Calls Tryz.prog 114 #[.pointer (some ⟨rb, 0, none⟩), .int .i64 p, .slice A n c, .int .i64 k] w fun e w' => e = .returned (.bool (checkS l (p, strOfNums zs) k)) ∧ ∃ m, w' = w.drewN m := by
  obtain ⟨v1, v2, hb, ho1, ho2, _, _⟩ := h.ex
  obtain ⟨A1, c1, rfl, _, _⟩ := own_slice ho1
  obtain ⟨A2, c2, rfl, _, _⟩ := own_slice ho2
  have hc := fun q => conv_has (w := w.drewN q) (c := c) (hh.drewN q) hn
  obtain ⟨s, hs⟩ : ∃ s, strOfNums zs = s := ⟨_, rfl⟩
  rw [hs] at hc ⊢
  have hcell0 := hb.cell 0
  have hcell1 := hb.cell 1
  simp only [List.getElem?_toArray, List.getElem?_cons_zero, List.getElem?_cons_succ] at hcell0 hcell1
  have H1 := Lib.hid (has_own0 ho1)
  have H2 := Lib.hid (has_own0 ho2)
  have hk2 := wf_i64 hk
  obtain ⟨hk3, hk4⟩ := hk2
  clear h hb ho1 ho2 hs hh hk
  by_cases hlow : k < 1
  · rw [checkS_low hlow]
    have hl0 : decide (1 ≤ k) = false := decide_eq_false (by omega)
    go_enter Tryz.func114, Tryz.ntmps114
    go_wp2
    go_quiet (fail)
    go_wp2
    go_ret
    exact ⟨rfl, _, rfl⟩
  · obtain ⟨m, rfl⟩ : ∃ m : Nat, k = (m : Int) + 1 := ⟨(k - 1).toNat, by omega⟩
    have hl1 : 1 ≤ (m : Int) + 1 := by omega
    rw [checkS_eq hnd]
    clear hlow
    by_cases hlt : m < l.length
    · obtain ⟨a1, rfl, hba, ha⟩ := H1.out m (.int .i64 l[m].1) (by simp [parties, List.getElem?_eq_getElem hlt])
      obtain ⟨a2, rfl, hbb, hb⟩ := H2.out m (.string l[m].2) (by simp [texts, List.getElem?_eq_getElem hlt])
      obtain ⟨x, hx⟩ : ∃ x, l[m] = x := ⟨_, rfl⟩
      rw [hx] at ha hb
      have HX := Lib.hid (show decide (l[m]? = some (p, s)) = decide (x = (p, s)) by rw [List.getElem?_eq_getElem hlt, hx]; simp)
      rw [HX.out]
      have hl2 : (m : Int) + 1 ≤ l.length := by omega
      clear hx hba hbb HX
      by_cases hp : x.1 = p
      · by_cases ht : x.2 = s
        · have HD := Lib.hid (show decide (x = (p, s)) = true from decide_eq_true (by rw [← hp, ← ht]))
          have hq : (x.2.toList == s.toList) = true := by rw [str_eq, ht]; simp
          rw [hp] at ha
          clear hp ht
          go_enter Tryz.func114, Tryz.ntmps114
          go_wp2
          go_quiet (fail)
          go_wp2
          go_ret
          rw [HD.out]
          exact ⟨rfl, _, rfl⟩
        · have HD := Lib.hid (show decide (x = (p, s)) = false from decide_eq_false (fun e => ht (by rw [e])))
          have hq : (x.2.toList == s.toList) = false := by rw [str_eq, decide_eq_false ht]
          rw [hp] at ha
          clear hp ht
          go_enter Tryz.func114, Tryz.ntmps114
          go_wp2
          go_quiet (fail)
          go_wp2
          go_ret
          rw [HD.out]
          exact ⟨rfl, _, rfl⟩
      · have HD := Lib.hid (show decide (x = (p, s)) = false from decide_eq_false (fun e => hp (by rw [e])))
        have hq : (x.1 == p) = false := by rw [beq_eq_false_iff_ne]; exact hp
        clear hp
        go_enter Tryz.func114, Tryz.ntmps114
        go_wp2
        go_quiet (fail)
        go_wp2
        go_ret
        rw [HD.out]
        exact ⟨rfl, _, rfl⟩
    · have HD := Lib.hid (show decide (l[m]? = some (p, s)) = false from decide_eq_false (by rw [List.getElem?_eq_none (by omega)]; simp))
      have hl2 : decide ((m : Int) + 1 ≤ l.length) = false := decide_eq_false (by omega)
      clear hlt
      go_enter Tryz.func114, Tryz.ntmps114
      go_wp2
      go_quiet (fail)
      go_wp2
      go_ret
      rw [HD.out]
      exact ⟨rfl, _, rfl⟩
end Go.Proofs.YtbegjadohamkkaaGreat
