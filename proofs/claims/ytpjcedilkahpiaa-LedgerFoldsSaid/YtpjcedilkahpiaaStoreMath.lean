/- Package store: what the document says of it, as functions. Nothing of the program. -/
import Derived.Test.YtpjcedilkahpiaaWords
namespace Go.Proofs.Ytpjcedilkahpiaa

/-- What the keys have. -/
abbrev Kv := Int → Option Int
def Kv.new : Kv := fun _ => none
def Kv.val (V : Kv) (k : Int) : Int := (V k).getD 0
def Kv.put (V : Kv) (k v : Int) : Kv := fun q => if q = k then some v else V q
def Kv.del (V : Kv) (k : Int) : Kv := fun q => if q = k then none else V q
theorem Kv.put_same (V : Kv) (k v : Int) : V.put k v k = some v := if_pos rfl
theorem Kv.put_other (V : Kv) {k q : Int} (h : q ≠ k) (v : Int) : V.put k v q = V q := if_neg h
theorem Kv.del_same (V : Kv) (k : Int) : V.del k k = none := if_pos rfl
theorem Kv.del_other (V : Kv) {k q : Int} (h : q ≠ k) : V.del k q = V q := if_neg h
def Kv.sumTo (V : Kv) : Nat → Int
  | 0 => 0
  | n + 1 => V.sumTo n + V.val n
def Kv.sum (V : Kv) : Int := V.sumTo 64
/-- May there be such an operation? -/
def mayOp (key v : Int) : Bool := decide (0 ≤ key ∧ key < 64 ∧ -2147483648 < v ∧ v < 2147483648)
/-- An operation: its result, and what the keys have then. -/
def storeS (V : Kv) (kd key v : Int) : Int × Kv :=
  if mayOp key v = false then (0, V)
  else if kd = 1 then (V.val key, V.put key v)
  else if kd = 2 then (V.val key, V)
  else if kd = 3 then (if -2147483648 < V.val key + v ∧ V.val key + v < 2147483648 then (V.val key + v, V.put key (V.val key + v)) else (V.val key, V))
  else if kd = 4 then (V.val key, V.del key)
  else if kd = 5 then (V.sum, V)
  else (0, V)
/-- Every key that has a value may have one, and the value is in its range. -/
def Kv.Ok (V : Kv) : Prop := ∀ k v, V k = some v → (0 ≤ k ∧ k < 64) ∧ -2147483648 < v ∧ v < 2147483648
theorem Kv.Ok.new : Kv.Ok Kv.new := fun k v h => by cases h
theorem Kv.Ok.val {V : Kv} (h : V.Ok) (k : Int) : -2147483648 < V.val k ∧ V.val k < 2147483648 := by
  unfold Kv.val
  cases hv : V k with
  | none => simp
  | some v => exact (h k v hv).2
theorem Kv.Ok.put {V : Kv} (h : V.Ok) {k v : Int} (hk : 0 ≤ k ∧ k < 64) (hv : -2147483648 < v ∧ v < 2147483648) : (V.put k v).Ok := fun q u hq => by
  by_cases e : q = k
  · subst e
    rw [Kv.put_same] at hq
    cases hq
    exact ⟨hk, hv⟩
  · rw [Kv.put_other _ e] at hq
    exact h q u hq
theorem Kv.Ok.del {V : Kv} (h : V.Ok) (k : Int) : (V.del k).Ok := fun q u hq => by
  by_cases e : q = k
  · subst e
    rw [Kv.del_same] at hq
    cases hq
  · rw [Kv.del_other _ e] at hq
    exact h q u hq
theorem mayOp_spec {key v : Int} (h : mayOp key v = true) : (0 ≤ key ∧ key < 64) ∧ -2147483648 < v ∧ v < 2147483648 := by
  have := of_decide_eq_true h
  omega
theorem storeS_ok {V : Kv} (h : V.Ok) (kd key v : Int) : (storeS V kd key v).2.Ok := by
  unfold storeS
  by_cases hm : mayOp key v = false
  · rw [if_pos hm]; exact h
  · rw [if_neg hm]
    have hs := mayOp_spec (by simpa using hm)
    split
    · exact h.put hs.1 hs.2
    split
    · exact h
    split
    · split
      · rename_i hr; exact h.put hs.1 hr
      · exact h
    split
    · exact h.del key
    split
    · exact h
    · exact h
theorem Kv.sumTo_in {V : Kv} (h : V.Ok) : ∀ n : Nat, -(2147483648 * (n : Int)) ≤ V.sumTo n ∧ V.sumTo n ≤ 2147483648 * (n : Int)
  | 0 => by simp [Kv.sumTo]
  | n + 1 => by
    have h1 := Kv.sumTo_in h n
    have h2 := h.val (n : Int)
    unfold Kv.sumTo
    omega
theorem Kv.sumTo_put {V : Kv} {k : Nat} {v : Int} : ∀ n : Nat, (V.put (k : Int) v).sumTo n = if k < n then V.sumTo n - V.val k + v else V.sumTo n
  | 0 => by simp [Kv.sumTo]
  | n + 1 => by
    have h1 := Kv.sumTo_put (V := V) (k := k) (v := v) n
    unfold Kv.sumTo
    by_cases e : k = n
    · subst e
      have h2 : (V.put (k : Int) v).val k = v := by unfold Kv.val; rw [Kv.put_same]; rfl
      rw [h1, if_neg (Nat.lt_irrefl k), if_pos (Nat.lt_succ_self k), h2]
      omega
    · have h2 : (V.put (k : Int) v).val n = V.val n := by unfold Kv.val; rw [Kv.put_other _ (by omega)]
      rw [h1, h2]
      by_cases hk : k < n
      · rw [if_pos hk, if_pos (by omega)]; omega
      · rw [if_neg hk, if_neg (by omega)]
/-- The keys that have a value, below n, each with it. -/
def Kv.upTo (V : Kv) : Nat → List (Int × Int)
  | 0 => []
  | n + 1 => V.upTo n ++ match V n with
    | none => []
    | some v => [((n : Int), v)]
def Kv.all (V : Kv) : List (Int × Int) := V.upTo 64
theorem Kv.mem_upTo {V : Kv} {k v : Int} : ∀ n : Nat, (k, v) ∈ V.upTo n ↔ (0 ≤ k ∧ k < n) ∧ V k = some v
  | 0 => by simp [Kv.upTo]; omega
  | n + 1 => by
    unfold Kv.upTo
    rw [List.mem_append, Kv.mem_upTo n]
    by_cases e : k = n
    · subst e
      cases hV : V (n : Int) with
      | none => simp
      | some u => simp [eq_comm]; omega
    · cases hV : V (n : Int) with
      | none => simp; omega
      | some u => simp [e]; omega
theorem Kv.upTo_len_put {V : Kv} {k : Nat} {v : Int} : ∀ n : Nat, ((V.put (k : Int) v).upTo n).length = (V.upTo n).length + (if k < n ∧ V (k : Int) = none then 1 else 0)
  | 0 => by simp [Kv.upTo]
  | n + 1 => by
    have h1 := Kv.upTo_len_put (V := V) (k := k) (v := v) n
    unfold Kv.upTo
    rw [List.length_append, List.length_append, h1]
    by_cases e : k = n
    · subst e
      rw [Kv.put_same, if_neg (fun h => Nat.lt_irrefl _ h.1)]
      cases hV : V (k : Int) <;> simp
    · rw [Kv.put_other _ (by omega)]
      by_cases hk : k < n
      · have : k < n + 1 := by omega
        simp only [hk, this, true_and]
        omega
      · have : ¬ k < n + 1 := by omega
        simp only [hk, this, false_and, if_false]
        omega
theorem Kv.upTo_len_del {V : Kv} {k : Nat} : ∀ n : Nat, ((V.del (k : Int)).upTo n).length + (if k < n ∧ (V (k : Int)).isSome then 1 else 0) = (V.upTo n).length
  | 0 => by simp [Kv.upTo]
  | n + 1 => by
    have h1 := Kv.upTo_len_del (V := V) (k := k) n
    unfold Kv.upTo
    rw [List.length_append, List.length_append, ← h1]
    by_cases e : k = n
    · subst e
      rw [Kv.del_same]
      cases hV : V (k : Int) <;> simp
    · rw [Kv.del_other _ (by omega)]
      by_cases hk : k < n
      · have : k < n + 1 := by omega
        simp only [hk, this, true_and]
        omega
      · have : ¬ k < n + 1 := by omega
        simp only [hk, this, false_and]
        simp
/-- What one has and the other has too, and as many: the same. -/
theorem Kv.upTo_sub {V U : Kv} : ∀ n : Nat, (∀ k v, V k = some v → U k = some v) → (V.upTo n).length ≤ (U.upTo n).length ∧ ((V.upTo n).length = (U.upTo n).length → ∀ k : Nat, k < n → V k = U k)
  | 0, _ => ⟨Nat.le_refl _, fun _ k hk => absurd hk (Nat.not_lt_zero k)⟩
  | n + 1, h => by
    obtain ⟨h1, h2⟩ := Kv.upTo_sub n h
    unfold Kv.upTo
    rw [List.length_append, List.length_append]
    cases hV : V (n : Int) with
    | none =>
      cases hU : U (n : Int) with
      | none =>
        refine ⟨by simpa using h1, fun he k hk => ?_⟩
        rcases Nat.lt_or_ge k n with hl | hl
        · exact h2 (by simpa using he) k hl
        · obtain rfl : k = n := by omega
          rw [hV, hU]
      | some u => refine ⟨by simp; omega, fun he => ?_⟩; simp at he; omega
    | some u =>
      rw [h _ _ hV]
      refine ⟨by simpa using h1, fun he k hk => ?_⟩
      rcases Nat.lt_or_ge k n with hl | hl
      · exact h2 (by simpa using he) k hl
      · obtain rfl : k = n := by omega
        rw [hV, h _ _ hV]
theorem Kv.all_len_put {V : Kv} {k v : Int} (hk : 0 ≤ k ∧ k < 64) : (V.put k v).all.length = if (V k).isSome then V.all.length else V.all.length + 1 := by
  obtain ⟨n, rfl⟩ := Int.eq_ofNat_of_zero_le hk.1
  unfold Kv.all
  rw [Kv.upTo_len_put]
  cases hV : V (n : Int) with
  | none => rw [if_pos ⟨by omega, rfl⟩]; simp
  | some u => rw [if_neg (fun h => nomatch h.2)]; simp
theorem Kv.all_len_del {V : Kv} (ho : V.Ok) {k : Int} : (V.del k).all.length + (if (V k).isSome then 1 else 0) = V.all.length := by
  cases hV : V k with
  | none =>
    have : V.del k = V := by funext q; by_cases e : q = k
                             · subst e; rw [Kv.del_same, hV]
                             · rw [Kv.del_other _ e]
    rw [this]; simp
  | some u =>
    have hk := (ho k u hV).1
    obtain ⟨n, rfl⟩ := Int.eq_ofNat_of_zero_le hk.1
    have := Kv.upTo_len_del (V := V) (k := n) 64
    rw [if_pos ⟨by omega, by rw [hV]; rfl⟩] at this
    unfold Kv.all
    simpa using this
theorem Kv.sub_eq {V U : Kv} (hV : V.Ok) (hU : U.Ok) (h : ∀ k v, V k = some v → U k = some v) (hl : V.all.length = U.all.length) : V = U := by
  funext q
  by_cases hq : 0 ≤ q ∧ q < 64
  · obtain ⟨n, rfl⟩ := Int.eq_ofNat_of_zero_le hq.1
    exact (Kv.upTo_sub 64 h).2 hl n (by omega)
  · have h1 : V q = none := by cases e : V q with
      | none => rfl
      | some u => exact absurd (hV q u e).1 hq
    have h2 : U q = none := by cases e : U q with
      | none => rfl
      | some u => exact absurd (hU q u e).1 hq
    rw [h1, h2]
/-- A row of keys, each with its value, in cells. -/
def pairCells (l : List (Int × Int)) : List Value := l.flatMap fun p => [.int .i64 p.1, .int .i64 p.2]
theorem pairCells_app (l m : List (Int × Int)) : pairCells (l ++ m) = pairCells l ++ pairCells m := by simp [pairCells]
theorem pairCells_len : ∀ l : List (Int × Int), (pairCells l).length = l.length * 2
  | [] => rfl
  | p :: l => by
    show (pairCells l).length + 1 + 1 = _
    rw [pairCells_len l, List.length_cons]
    omega
theorem pairCells_one (l : List (Int × Int)) : ∀ u ∈ pairCells l, u.oneCell' = true := by
  intro u hu
  obtain ⟨v, _, hv⟩ := List.mem_flatMap.1 hu
  simp at hv
  rcases hv with rfl | rfl <;> rfl
theorem Kv.upTo_len (V : Kv) : ∀ n : Nat, (V.upTo n).length ≤ n
  | 0 => Nat.le_refl _
  | n + 1 => by
    have := Kv.upTo_len V n
    unfold Kv.upTo
    rw [List.length_append]
    split <;> simp <;> omega
theorem Kv.upTo_none {V : Kv} {n : Nat} (h : V n = none) : V.upTo (n + 1) = V.upTo n := by
  conv => lhs; unfold Kv.upTo
  rw [h]
  simp
theorem Kv.upTo_some {V : Kv} {n : Nat} {v : Int} (h : V n = some v) : V.upTo (n + 1) = V.upTo n ++ [((n : Int), v)] := by
  conv => lhs; unfold Kv.upTo
  rw [h]
end Go.Proofs.Ytpjcedilkahpiaa
