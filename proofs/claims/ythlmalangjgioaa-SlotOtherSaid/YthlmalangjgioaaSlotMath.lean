/- Slots as lists of votes: what each call answers. Nothing of the program. -/
import Derived.Test.YthlmalangjgioaaForms
namespace Go.Proofs.Ythlmalangjgioaa

/-- What a node has voted for, if it has. -/
structure Vo where
  ca : Bool
  sg : Int
  bt : List Rq
deriving DecidableEq
def offV : Vo := ⟨false, 0, []⟩
/-- The votes for a batch, of nodes from k on. -/
def forL : Nat → List Vo → List Rq → List Vt
  | _, [], _ => []
  | k, x :: L, b => if x.ca = true ∧ x.bt = b then ⟨(k : Int), x.sg⟩ :: forL (k + 1) L b else forL (k + 1) L b
theorem forL_cons (k : Nat) (x : Vo) (L : List Vo) (b : List Rq) : forL k (x :: L) b = if x.ca = true ∧ x.bt = b then ⟨(k : Int), x.sg⟩ :: forL (k + 1) L b else forL (k + 1) L b := rfl
theorem forL_app : ∀ (L M : List Vo) (k : Nat) (b : List Rq), forL k (L ++ M) b = forL k L b ++ forL (k + L.length) M b
  | [], M, k, b => by simp [forL]
  | x :: L, M, k, b => by
    have ih := forL_app L M (k + 1) b
    rw [List.cons_append, forL_cons, forL_cons, ih, show k + (x :: L).length = k + 1 + L.length by simp; omega]
    split <;> rfl
theorem forL_le : ∀ (L : List Vo) (k : Nat) (b : List Rq), (forL k L b).length ≤ L.length
  | [], _, _ => Nat.le_refl _
  | x :: L, k, b => by
    have ih := forL_le L (k + 1) b
    rw [forL_cons]
    split <;> simp <;> omega
theorem forL_two : ∀ (L : List Vo) (k : Nat) (b c : List Rq), b ≠ c → (forL k L b).length + (forL k L c).length ≤ L.length
  | [], _, _, _, _ => by simp [forL]
  | x :: L, k, b, c, h => by
    have ih := forL_two L (k + 1) b c h
    rw [forL_cons, forL_cons]
    by_cases h1 : x.ca = true ∧ x.bt = b
    · have h2 : ¬ (x.ca = true ∧ x.bt = c) := fun e => h (h1.2.symm.trans e.2)
      rw [if_pos h1, if_neg h2]
      simp; omega
    · rw [if_neg h1]
      split <;> simp <;> omega
theorem forL_some : ∀ {L : List Vo} {k : Nat} {b : List Rq}, forL k L b ≠ [] → ∃ x ∈ L, x.bt = b
  | [], _, _, h => absurd rfl h
  | x :: L, k, b, h => by
    rw [forL_cons] at h
    by_cases h1 : x.ca = true ∧ x.bt = b
    · exact ⟨x, List.mem_cons_self, h1.2⟩
    · rw [if_neg h1] at h
      obtain ⟨y, hy, hb⟩ := forL_some h
      exact ⟨y, List.mem_cons_of_mem _ hy, hb⟩
theorem forL_next {L : List Vo} {k : Nat} {x : Vo} {b : List Rq} (h : L[k]? = some x) : forL 0 (L.take (k + 1)) b = forL 0 (L.take k) b ++ if x.ca = true ∧ x.bt = b then [⟨(k : Int), x.sg⟩] else [] := by
  have hk := (List.getElem?_eq_some_iff.1 h).1
  rw [List.take_add_one, h, forL_app]
  show _ ++ forL (0 + (L.take k).length) [x] b = _
  rw [List.length_take, Nat.min_eq_left (by omega), Nat.zero_add]
  rfl
theorem forL_pre (L : List Vo) (k : Nat) (b : List Rq) : ∃ M, forL 0 L b = forL 0 (L.take k) b ++ M := by
  refine ⟨forL (0 + (L.take k).length) (L.drop k) b, ?_⟩
  rw [← forL_app, List.take_append_drop]
/-- The votes of the lowest nodes for a batch, if there are enough. -/
def decS (L : List Vo) (b : List Rq) (q : Nat) : Option (List Vt) := if q ≤ (forL 0 L b).length then some ((forL 0 L b).take q) else none
theorem decS_none {L : List Vo} {b : List Rq} {q : Nat} (h : (forL 0 L b).length < q) : decS L b q = none := if_neg (by omega)
theorem decS_some {L : List Vo} {b : List Rq} {q : Nat} (h : q ≤ (forL 0 L b).length) : decS L b q = some ((forL 0 L b).take q) := if_pos h
theorem decS_is {L : List Vo} {b : List Rq} {q : Nat} {v : List Vt} (h : decS L b q = some v) : q ≤ (forL 0 L b).length ∧ v = (forL 0 L b).take q ∧ v.length = q := by
  unfold decS at h
  split at h
  · rename_i hq
    injection h with h
    subst h
    exact ⟨hq, rfl, by rw [List.length_take]; omega⟩
  · cases h
/-- So many are there at place k: the votes are told. -/
theorem decS_here {L : List Vo} {b : List Rq} {q k : Nat} (h : (forL 0 (L.take k) b).length = q) : decS L b q = some (forL 0 (L.take k) b) := by
  obtain ⟨M, hM⟩ := forL_pre L k b
  rw [decS_some (by rw [hM, List.length_append]; omega), hM, ← h, List.take_left']
  rfl
theorem decS_end {L : List Vo} {b : List Rq} {q k : Nat} (h : (forL 0 (L.take k) b).length < q) (hk : L.length ≤ k) : decS L b q = none := by
  rw [List.take_of_length_le hk] at h
  exact decS_none h
/-- No two batches. -/
theorem decS_one {L : List Vo} {b c : List Rq} {q : Nat} (hq : L.length < 2 * q) {v u : List Vt} (h : decS L b q = some v) (k : decS L c q = some u) : b = c := by
  by_cases e : b = c
  · exact e
  · have := forL_two L 0 b c e
    have := (decS_is h).1
    have := (decS_is k).1
    omega
/-- The batch that is committed, with its votes. -/
def comS (q : Nat) (L : List Vo) : List Vo → Option (List Rq × List Vt)
  | [] => none
  | x :: M => match decS L x.bt q with
    | some v => some (x.bt, v)
    | none => comS q L M
theorem comS_is {q : Nat} {L : List Vo} : ∀ {M : List Vo} {b : List Rq} {v : List Vt}, comS q L M = some (b, v) → decS L b q = some v
  | [], _, _, h => by cases h
  | x :: M, b, v, h => by
    unfold comS at h
    cases hd : decS L x.bt q with
    | some u =>
      rw [hd] at h
      injection h with h
      injection h with h1 h2
      subst h1 h2
      exact hd
    | none =>
      rw [hd] at h
      exact comS_is h
theorem comS_no {q : Nat} {L : List Vo} : ∀ {M : List Vo}, comS q L M = none → ∀ x ∈ M, decS L x.bt q = none
  | [], _, x, hx => by cases hx
  | y :: M, h, x, hx => by
    unfold comS at h
    cases hd : decS L y.bt q with
    | some u => rw [hd] at h; cases h
    | none =>
      rw [hd] at h
      rcases List.mem_cons.1 hx with rfl | hx
      · exact hd
      · exact comS_no h x hx
theorem comS_none {q : Nat} {L : List Vo} : ∀ {M : List Vo}, (∀ x ∈ M, decS L x.bt q = none) → comS q L M = none
  | [], _ => rfl
  | y :: M, h => by
    unfold comS
    rw [h y List.mem_cons_self]
    exact comS_none fun x hx => h x (List.mem_cons_of_mem _ hx)
theorem comS_take {q : Nat} {L M : List Vo} {k : Nat} {x : Vo} (h : M[k]? = some x) (hn : ∀ y ∈ M.take k, decS L y.bt q = none) {v : List Vt} (hx : decS L x.bt q = some v) : comS q L M = some (x.bt, v) := by
  induction k generalizing M with
  | zero =>
    cases M with
    | nil => cases h
    | cons y M =>
      obtain rfl : y = x := by simpa using h
      unfold comS
      rw [hx]
  | succ k ih =>
    cases M with
    | nil => cases h
    | cons y M =>
      unfold comS
      rw [hn y (by simp)]
      exact ih (by simpa using h) (fun z hz => hn z (by simp [hz]))
theorem comS_end {q : Nat} {L M : List Vo} {k : Nat} (hn : ∀ y ∈ M.take k, decS L y.bt q = none) (hk : M.length ≤ k) : comS q L M = none := by
  rw [List.take_of_length_le hk] at hn
  exact comS_none hn
/-- Whatever enough have committed, is told. -/
theorem comS_of {q : Nat} {L : List Vo} {b : List Rq} {v : List Vt} (h0 : 0 < q) (hq : L.length < 2 * q) (h : decS L b q = some v) : comS q L L = some (b, v) := by
  cases hc : comS q L L with
  | some p =>
    obtain ⟨c, u⟩ := p
    have h1 := comS_is hc
    have := decS_one hq h h1
    subst this
    rw [h] at h1
    injection h1 with h1
    rw [h1]
  | none =>
    obtain ⟨x, hx, hb⟩ := forL_some (L := L) (k := 0) (b := b) (fun e => by
      have := (decS_is h).1
      rw [e] at this
      simp at this
      omega)
    have := comS_no hc x hx
    rw [hb, h] at this
    cases this
theorem comS_not {q : Nat} {L : List Vo} (h : ∀ x ∈ L, decS L x.bt q = none) : comS q L L = none := comS_none h
/-- A slot: what is chosen, the votes of both kinds. -/
structure Sx where
  ch : Option (List Rq)
  P : List Vo
  C : List Vo
deriving DecidableEq
def votS (L : List Vo) (k sg : Int) (b : List Rq) : Bool × List Vo := if 0 ≤ k ∧ k < L.length ∧ ((L[k.toNat]?).getD offV).ca = false then (true, L.set k.toNat ⟨true, sg, b⟩) else (false, L)
def hadS (L : List Vo) (k : Int) : Bool := decide (0 ≤ k ∧ k < L.length) && ((L[k.toNat]?).getD offV).ca
def Sx.vote (s : Sx) (kd k sg : Int) (b : List Rq) : Bool × Sx :=
  if kd = 4 then ((votS s.P k sg b).1, ⟨s.ch, (votS s.P k sg b).2, s.C⟩) else if kd = 5 then ((votS s.C k sg b).1, ⟨s.ch, s.P, (votS s.C k sg b).2⟩) else (false, s)
def Sx.voted (s : Sx) (kd k : Int) : Bool := if kd = 4 then hadS s.P k else if kd = 5 then hadS s.C k else false
def Sx.pre (s : Sx) (b : List Rq) : Sx := if s.ch.isSome then s else ⟨some b, s.P, s.C⟩
def Sx.prep (s : Sx) (q : Nat) : Option (List Vt) := match s.ch with
  | none => none
  | some b => decS s.P b q
def Sx.com (s : Sx) (q : Nat) : Option (List Rq × List Vt) := comS q s.C s.C
def Sx.new (n : Nat) : Sx := ⟨none, List.replicate n offV, List.replicate n offV⟩
theorem votS_len (L : List Vo) (k sg : Int) (b : List Rq) : (votS L k sg b).2.length = L.length := by
  unfold votS
  split <;> simp
theorem votS_bad {L : List Vo} {k sg : Int} {b : List Rq} (h : k < 0 ∨ (L.length : Int) ≤ k) : votS L k sg b = (false, L) := if_neg (by omega)
theorem votS_had {L : List Vo} {k : Nat} {sg : Int} {b : List Rq} {x : Vo} (h : L[k]? = some x) (hx : x.ca = true) : votS L k sg b = (false, L) := by
  unfold votS
  rw [if_neg]
  rintro ⟨_, _, h3⟩
  rw [Int.toNat_natCast, h] at h3
  simp [hx] at h3
theorem votS_new {L : List Vo} {k : Nat} {sg : Int} {b : List Rq} {x : Vo} (h : L[k]? = some x) (hx : x.ca = false) : votS L k sg b = (true, L.set k ⟨true, sg, b⟩) := by
  have hk := (List.getElem?_eq_some_iff.1 h).1
  unfold votS
  rw [if_pos ⟨by omega, by omega, by rw [Int.toNat_natCast, h]; exact hx⟩, Int.toNat_natCast]
theorem hadS_bad {L : List Vo} {k : Int} (h : k < 0 ∨ (L.length : Int) ≤ k) : hadS L k = false := by
  unfold hadS
  rw [decide_eq_false (by omega)]
  rfl
theorem hadS_at {L : List Vo} {k : Nat} {x : Vo} (h : L[k]? = some x) : hadS L k = x.ca := by
  have hk := (List.getElem?_eq_some_iff.1 h).1
  unfold hadS
  rw [decide_eq_true (by omega), Int.toNat_natCast, h]
  rfl
/-! ### All nodes up to one -/
def fillV (i n : Nat) (z : Vo) : List Vo := List.replicate i z ++ List.replicate (n - i) offV
theorem fillV_zero (n : Nat) (z : Vo) : fillV 0 n z = List.replicate n offV := rfl
theorem fillV_len {i n : Nat} (h : i ≤ n) (z : Vo) : (fillV i n z).length = n := by simp [fillV]; omega
theorem fillV_at {i n : Nat} (h : i < n) (z : Vo) : (fillV i n z)[i]? = some offV := by
  unfold fillV
  rw [List.getElem?_append_right (by simp), List.length_replicate, Nat.sub_self, List.getElem?_replicate, if_pos (by omega)]
theorem fillV_set {i n : Nat} (h : i < n) (z : Vo) : (fillV i n z).set i z = fillV (i + 1) n z := by
  unfold fillV
  rw [List.set_append_right _ _ (by simp), List.length_replicate, Nat.sub_self, show n - i = (n - (i + 1)) + 1 by omega, List.replicate_succ, List.set_cons_zero, List.replicate_succ', List.append_assoc]
  rfl
theorem fillV_vote {i n : Nat} (h : i < n) {z : Vo} (hz : z.ca = true) : votS (fillV i n z) i z.sg z.bt = (true, fillV (i + 1) n z) := by
  rw [votS_new (fillV_at h z) rfl, ← fillV_set h z]
  obtain ⟨a, b, c⟩ := z
  subst hz
  rfl
theorem forL_rep (m : Nat) : ∀ (k : Nat) (z : Vo) (b : List Rq), (forL k (List.replicate m z) b).length = if z.ca = true ∧ z.bt = b then m else 0 := by
  induction m with
  | zero => intro k z b; simp [forL]
  | succ m ih =>
    intro k z b
    rw [List.replicate_succ, forL_cons]
    by_cases h : z.ca = true ∧ z.bt = b
    · have := ih (k + 1) z b
      rw [if_pos h] at this
      rw [if_pos h, if_pos h, List.length_cons, this]
    · have := ih (k + 1) z b
      rw [if_neg h] at this
      rw [if_neg h, if_neg h, this]
theorem forL_fill {i n : Nat} {z : Vo} (hz : z.ca = true) (b : List Rq) : (forL 0 (fillV i n z) b).length = if z.bt = b then i else 0 := by
  unfold fillV
  rw [forL_app, List.length_append, forL_rep, forL_rep, if_neg (c := offV.ca = true ∧ offV.bt = b) (fun e => by cases e.1)]
  by_cases h : z.bt = b
  · rw [if_pos ⟨hz, h⟩, if_pos h]; rfl
  · rw [if_neg (fun e => h e.2), if_neg h]
theorem decS_fill {i n q : Nat} {z : Vo} (hz : z.ca = true) {b : List Rq} (h : i < q ∨ z.bt ≠ b ∧ 0 < q) : decS (fillV i n z) b q = none := by
  refine decS_none ?_
  rw [forL_fill hz]
  split
  · rename_i e
    rcases h with h | h
    · exact h
    · exact absurd e h.1
  · omega
theorem decS_full {i n q : Nat} {z : Vo} (hz : z.ca = true) (h : q ≤ i) : ∃ v, decS (fillV i n z) z.bt q = some v ∧ v.length = q := by
  have h1 : q ≤ (forL 0 (fillV i n z) z.bt).length := by rw [forL_fill hz, if_pos rfl]; exact h
  exact ⟨_, decS_some h1, by rw [List.length_take]; omega⟩
theorem comS_fill {i n q : Nat} {z : Vo} (hz : z.ca = true) (h : i < q) : comS q (fillV i n z) (fillV i n z) = none := comS_none fun _ _ => decS_fill hz (Or.inl h)
theorem comS_full {i n q : Nat} {z : Vo} (hz : z.ca = true) (h : q ≤ i) (h0 : 0 < q) (hn : n < 2 * q) (hi : i ≤ n) : ∃ v, comS q (fillV i n z) (fillV i n z) = some (z.bt, v) ∧ v.length = q := by
  obtain ⟨v, h1, h2⟩ := decS_full (n := n) hz h
  exact ⟨v, comS_of h0 (by rw [fillV_len hi]; exact hn) h1, h2⟩
theorem comS_fullN {n q : Nat} {z : Vo} (hz : z.ca = true) (h0 : 0 < q) (hn : n < 2 * q) (hq : q ≤ n) : ∃ v, comS q (fillV n n z) (fillV n n z) = some (z.bt, v) ∧ v.length = q := comS_full hz hq h0 hn (Nat.le_refl _)
theorem decS_off {n q : Nat} {b : List Rq} (h : 0 < q) : decS (List.replicate n offV) b q = none := decS_none (by rw [forL_rep, if_neg (fun e => by cases e.1)]; exact h)
theorem comS_off {n q : Nat} (h : 0 < q) : comS q (List.replicate n offV) (List.replicate n offV) = none := comS_none fun _ _ => decS_off h
end Go.Proofs.Ythlmalangjgioaa
