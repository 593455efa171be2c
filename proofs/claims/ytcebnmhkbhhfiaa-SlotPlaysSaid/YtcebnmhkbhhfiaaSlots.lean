/- Package slot: as lists of votes, in memory, its calls, the example; votes told by marks; two slots. -/
import Derived.Test.YtcebnmhkbhhfiaaForms
import Derived.Test.YtcebnmhkbhhfiaaNotary
import Derived.Test.YtcebnmhkbhhfiaaRowCells
import Derived.Test.YtcebnmhkbhhfiaaMsgClone
import Derived.Test.YtcebnmhkbhhfiaaBallotNums
import Derived.Laws.MakeOwn
import Derived.Deep.RegionHeld3
import Derived.Deep.RegionLaw
import Derived.Lib.QuietBelow
import Derived.Test.YtcebnmhkbhhfiaaReqEq
import Derived.Test.YtcebnmhkbhhfiaaRow4
import Derived.Test.YtcebnmhkbhhfiaaSameCerts
import Derived.Test.YtcebnmhkbhhfiaaWithin
import Derived.Test.YtcebnmhkbhhfiaaRefBallot
import Derived.Test.YtcebnmhkbhhfiaaRefRising
namespace Go.Proofs.Ytcebnmhkbhhfiaa

/-- What a node has voted for, if it has. -/
structure Vo where
  ca : Bool
  sg : Int
  bt : List Rq
deriving DecidableEq
def offV : Vo := ⟨false, 0, []⟩
/-- The votes for a batch, of nodes from k on. -/
def forL : Nat → List Vo → List Rq → List Vt
  | _, [], _ => []
  | k, x :: L, b => if x.ca = true ∧ x.bt = b then ⟨(k : Int), x.sg⟩ :: forL (k + 1) L b else forL (k + 1) L b
theorem forL_cons (k : Nat) (x : Vo) (L : List Vo) (b : List Rq) : forL k (x :: L) b = if x.ca = true ∧ x.bt = b then ⟨(k : Int), x.sg⟩ :: forL (k + 1) L b else forL (k + 1) L b := rfl
theorem forL_app : ∀ (L M : List Vo) (k : Nat) (b : List Rq), forL k (L ++ M) b = forL k L b ++ forL (k + L.length) M b
  | [], M, k, b => by simp [forL]
  | x :: L, M, k, b => by
    have ih := forL_app L M (k + 1) b
    rw [List.cons_append, forL_cons, forL_cons, ih, show k + (x :: L).length = k + 1 + L.length by simp; omega]
    split <;> rfl
theorem forL_le : ∀ (L : List Vo) (k : Nat) (b : List Rq), (forL k L b).length ≤ L.length
  | [], _, _ => Nat.le_refl _
  | x :: L, k, b => by
    have ih := forL_le L (k + 1) b
    rw [forL_cons]
    split <;> simp <;> omega
theorem forL_two : ∀ (L : List Vo) (k : Nat) (b c : List Rq), b ≠ c → (forL k L b).length + (forL k L c).length ≤ L.length
  | [], _, _, _, _ => by simp [forL]
  | x :: L, k, b, c, h => by
    have ih := forL_two L (k + 1) b c h
    rw [forL_cons, forL_cons]
    by_cases h1 : x.ca = true ∧ x.bt = b
    · have h2 : ¬ (x.ca = true ∧ x.bt = c) := fun e => h (h1.2.symm.trans e.2)
      rw [if_pos h1, if_neg h2]
      simp; omega
    · rw [if_neg h1]
      split <;> simp <;> omega
theorem forL_some : ∀ {L : List Vo} {k : Nat} {b : List Rq}, forL k L b ≠ [] → ∃ x ∈ L, x.bt = b
  | [], _, _, h => absurd rfl h
  | x :: L, k, b, h => by
    rw [forL_cons] at h
    by_cases h1 : x.ca = true ∧ x.bt = b
    · exact ⟨x, List.mem_cons_self, h1.2⟩
    · rw [if_neg h1] at h
      obtain ⟨y, hy, hb⟩ := forL_some h
      exact ⟨y, List.mem_cons_of_mem _ hy, hb⟩
theorem forL_next {L : List Vo} {k : Nat} {x : Vo} {b : List Rq} (h : L[k]? = some x) : forL 0 (L.take (k + 1)) b = forL 0 (L.take k) b ++ if x.ca = true ∧ x.bt = b then [⟨(k : Int), x.sg⟩] else [] := by
  have hk := (List.getElem?_eq_some_iff.1 h).1
  rw [List.take_add_one, h, forL_app]
  show _ ++ forL (0 + (L.take k).length) [x] b = _
  rw [List.length_take, Nat.min_eq_left (by omega), Nat.zero_add]
  rfl
theorem forL_pre (L : List Vo) (k : Nat) (b : List Rq) : ∃ M, forL 0 L b = forL 0 (L.take k) b ++ M := by
  refine ⟨forL (0 + (L.take k).length) (L.drop k) b, ?_⟩
  rw [← forL_app, List.take_append_drop]
/-- The votes of the lowest nodes for a batch, if there are enough. -/
def decS (L : List Vo) (b : List Rq) (q : Nat) : Option (List Vt) := if q ≤ (forL 0 L b).length then some ((forL 0 L b).take q) else none
theorem decS_none {L : List Vo} {b : List Rq} {q : Nat} (h : (forL 0 L b).length < q) : decS L b q = none := if_neg (by omega)
theorem decS_some {L : List Vo} {b : List Rq} {q : Nat} (h : q ≤ (forL 0 L b).length) : decS L b q = some ((forL 0 L b).take q) := if_pos h
theorem decS_is {L : List Vo} {b : List Rq} {q : Nat} {v : List Vt} (h : decS L b q = some v) : q ≤ (forL 0 L b).length ∧ v = (forL 0 L b).take q ∧ v.length = q := by
  unfold decS at h
  split at h
  · rename_i hq
    injection h with h
    subst h
    exact ⟨hq, rfl, by rw [List.length_take]; omega⟩
  · cases h
/-- So many are there at place k: the votes are told. -/
theorem decS_here {L : List Vo} {b : List Rq} {q k : Nat} (h : (forL 0 (L.take k) b).length = q) : decS L b q = some (forL 0 (L.take k) b) := by
  obtain ⟨M, hM⟩ := forL_pre L k b
  rw [decS_some (by rw [hM, List.length_append]; omega), hM, ← h, List.take_left']
  rfl
theorem decS_end {L : List Vo} {b : List Rq} {q k : Nat} (h : (forL 0 (L.take k) b).length < q) (hk : L.length ≤ k) : decS L b q = none := by
  rw [List.take_of_length_le hk] at h
  exact decS_none h
/-- No two batches. -/
theorem decS_one {L : List Vo} {b c : List Rq} {q : Nat} (hq : L.length < 2 * q) {v u : List Vt} (h : decS L b q = some v) (k : decS L c q = some u) : b = c := by
  by_cases e : b = c
  · exact e
  · have := forL_two L 0 b c e
    have := (decS_is h).1
    have := (decS_is k).1
    omega
/-- The batch that is committed, with its votes. -/
def comS (q : Nat) (L : List Vo) : List Vo → Option (List Rq × List Vt)
  | [] => none
  | x :: M => match decS L x.bt q with
    | some v => some (x.bt, v)
    | none => comS q L M
theorem comS_is {q : Nat} {L : List Vo} : ∀ {M : List Vo} {b : List Rq} {v : List Vt}, comS q L M = some (b, v) → decS L b q = some v
  | [], _, _, h => by cases h
  | x :: M, b, v, h => by
    unfold comS at h
    cases hd : decS L x.bt q with
    | some u =>
      rw [hd] at h
      injection h with h
      injection h with h1 h2
      subst h1 h2
      exact hd
    | none =>
      rw [hd] at h
      exact comS_is h
theorem comS_no {q : Nat} {L : List Vo} : ∀ {M : List Vo}, comS q L M = none → ∀ x ∈ M, decS L x.bt q = none
  | [], _, x, hx => by cases hx
  | y :: M, h, x, hx => by
    unfold comS at h
    cases hd : decS L y.bt q with
    | some u => rw [hd] at h; cases h
    | none =>
      rw [hd] at h
      rcases List.mem_cons.1 hx with rfl | hx
      · exact hd
      · exact comS_no h x hx
theorem comS_none {q : Nat} {L : List Vo} : ∀ {M : List Vo}, (∀ x ∈ M, decS L x.bt q = none) → comS q L M = none
  | [], _ => rfl
  | y :: M, h => by
    unfold comS
    rw [h y List.mem_cons_self]
    exact comS_none fun x hx => h x (List.mem_cons_of_mem _ hx)
theorem comS_take {q : Nat} {L M : List Vo} {k : Nat} {x : Vo} (h : M[k]? = some x) (hn : ∀ y ∈ M.take k, decS L y.bt q = none) {v : List Vt} (hx : decS L x.bt q = some v) : comS q L M = some (x.bt, v) := by
  induction k generalizing M with
  | zero =>
    cases M with
    | nil => cases h
    | cons y M =>
      obtain rfl : y = x := by simpa using h
      unfold comS
      rw [hx]
  | succ k ih =>
    cases M with
    | nil => cases h
    | cons y M =>
      unfold comS
      rw [hn y (by simp)]
      exact ih (by simpa using h) (fun z hz => hn z (by simp [hz]))
theorem comS_end {q : Nat} {L M : List Vo} {k : Nat} (hn : ∀ y ∈ M.take k, decS L y.bt q = none) (hk : M.length ≤ k) : comS q L M = none := by
  rw [List.take_of_length_le hk] at hn
  exact comS_none hn
/-- Whatever enough have committed, is told. -/
theorem comS_of {q : Nat} {L : List Vo} {b : List Rq} {v : List Vt} (h0 : 0 < q) (hq : L.length < 2 * q) (h : decS L b q = some v) : comS q L L = some (b, v) := by
  cases hc : comS q L L with
  | some p =>
    obtain ⟨c, u⟩ := p
    have h1 := comS_is hc
    have := decS_one hq h h1
    subst this
    rw [h] at h1
    injection h1 with h1
    rw [h1]
  | none =>
    obtain ⟨x, hx, hb⟩ := forL_some (L := L) (k := 0) (b := b) (fun e => by
      have := (decS_is h).1
      rw [e] at this
      simp at this
      omega)
    have := comS_no hc x hx
    rw [hb, h] at this
    cases this
theorem comS_not {q : Nat} {L : List Vo} (h : ∀ x ∈ L, decS L x.bt q = none) : comS q L L = none := comS_none h
/-- A slot: what is chosen, the votes of both kinds. -/
structure Sx where
  ch : Option (List Rq)
  P : List Vo
  C : List Vo
deriving DecidableEq
def votS (L : List Vo) (k sg : Int) (b : List Rq) : Bool × List Vo := if 0 ≤ k ∧ k < L.length ∧ ((L[k.toNat]?).getD offV).ca = false then (true, L.set k.toNat ⟨true, sg, b⟩) else (false, L)
def hadS (L : List Vo) (k : Int) : Bool := decide (0 ≤ k ∧ k < L.length) && ((L[k.toNat]?).getD offV).ca
def Sx.vote (s : Sx) (kd k sg : Int) (b : List Rq) : Bool × Sx :=
  if kd = 4 then ((votS s.P k sg b).1, ⟨s.ch, (votS s.P k sg b).2, s.C⟩) else if kd = 5 then ((votS s.C k sg b).1, ⟨s.ch, s.P, (votS s.C k sg b).2⟩) else (false, s)
def Sx.voted (s : Sx) (kd k : Int) : Bool := if kd = 4 then hadS s.P k else if kd = 5 then hadS s.C k else false
def Sx.pre (s : Sx) (b : List Rq) : Sx := if s.ch.isSome then s else ⟨some b, s.P, s.C⟩
def Sx.prep (s : Sx) (q : Nat) : Option (List Vt) := match s.ch with
  | none => none
  | some b => decS s.P b q
def Sx.com (s : Sx) (q : Nat) : Option (List Rq × List Vt) := comS q s.C s.C
def Sx.new (n : Nat) : Sx := ⟨none, List.replicate n offV, List.replicate n offV⟩
theorem votS_len (L : List Vo) (k sg : Int) (b : List Rq) : (votS L k sg b).2.length = L.length := by
  unfold votS
  split <;> simp
theorem votS_bad {L : List Vo} {k sg : Int} {b : List Rq} (h : k < 0 ∨ (L.length : Int) ≤ k) : votS L k sg b = (false, L) := if_neg (by omega)
theorem votS_had {L : List Vo} {k : Nat} {sg : Int} {b : List Rq} {x : Vo} (h : L[k]? = some x) (hx : x.ca = true) : votS L k sg b = (false, L) := by
  unfold votS
  rw [if_neg]
  rintro ⟨_, _, h3⟩
  rw [Int.toNat_natCast, h] at h3
  simp [hx] at h3
theorem votS_new {L : List Vo} {k : Nat} {sg : Int} {b : List Rq} {x : Vo} (h : L[k]? = some x) (hx : x.ca = false) : votS L k sg b = (true, L.set k ⟨true, sg, b⟩) := by
  have hk := (List.getElem?_eq_some_iff.1 h).1
  unfold votS
  rw [if_pos ⟨by omega, by omega, by rw [Int.toNat_natCast, h]; exact hx⟩, Int.toNat_natCast]
theorem hadS_bad {L : List Vo} {k : Int} (h : k < 0 ∨ (L.length : Int) ≤ k) : hadS L k = false := by
  unfold hadS
  rw [decide_eq_false (by omega)]
  rfl
theorem hadS_at {L : List Vo} {k : Nat} {x : Vo} (h : L[k]? = some x) : hadS L k = x.ca := by
  have hk := (List.getElem?_eq_some_iff.1 h).1
  unfold hadS
  rw [decide_eq_true (by omega), Int.toNat_natCast, h]
  rfl
/-! ### All nodes up to one -/
def fillV (i n : Nat) (z : Vo) : List Vo := List.replicate i z ++ List.replicate (n - i) offV
theorem fillV_zero (n : Nat) (z : Vo) : fillV 0 n z = List.replicate n offV := rfl
theorem fillV_len {i n : Nat} (h : i ≤ n) (z : Vo) : (fillV i n z).length = n := by simp [fillV]; omega
theorem fillV_at {i n : Nat} (h : i < n) (z : Vo) : (fillV i n z)[i]? = some offV := by
  unfold fillV
  rw [List.getElem?_append_right (by simp), List.length_replicate, Nat.sub_self, List.getElem?_replicate, if_pos (by omega)]
theorem fillV_set {i n : Nat} (h : i < n) (z : Vo) : (fillV i n z).set i z = fillV (i + 1) n z := by
  unfold fillV
  rw [List.set_append_right _ _ (by simp), List.length_replicate, Nat.sub_self, show n - i = (n - (i + 1)) + 1 by omega, List.replicate_succ, List.set_cons_zero, List.replicate_succ', List.append_assoc]
  rfl
theorem fillV_vote {i n : Nat} (h : i < n) {z : Vo} (hz : z.ca = true) : votS (fillV i n z) i z.sg z.bt = (true, fillV (i + 1) n z) := by
  rw [votS_new (fillV_at h z) rfl, ← fillV_set h z]
  obtain ⟨a, b, c⟩ := z
  subst hz
  rfl
theorem forL_rep (m : Nat) : ∀ (k : Nat) (z : Vo) (b : List Rq), (forL k (List.replicate m z) b).length = if z.ca = true ∧ z.bt = b then m else 0 := by
  induction m with
  | zero => intro k z b; simp [forL]
  | succ m ih =>
    intro k z b
    rw [List.replicate_succ, forL_cons]
    by_cases h : z.ca = true ∧ z.bt = b
    · have := ih (k + 1) z b
      rw [if_pos h] at this
      rw [if_pos h, if_pos h, List.length_cons, this]
    · have := ih (k + 1) z b
      rw [if_neg h] at this
      rw [if_neg h, if_neg h, this]
theorem forL_fill {i n : Nat} {z : Vo} (hz : z.ca = true) (b : List Rq) : (forL 0 (fillV i n z) b).length = if z.bt = b then i else 0 := by
  unfold fillV
  rw [forL_app, List.length_append, forL_rep, forL_rep, if_neg (c := offV.ca = true ∧ offV.bt = b) (fun e => by cases e.1)]
  by_cases h : z.bt = b
  · rw [if_pos ⟨hz, h⟩, if_pos h]; rfl
  · rw [if_neg (fun e => h e.2), if_neg h]
theorem decS_fill {i n q : Nat} {z : Vo} (hz : z.ca = true) {b : List Rq} (h : i < q ∨ z.bt ≠ b ∧ 0 < q) : decS (fillV i n z) b q = none := by
  refine decS_none ?_
  rw [forL_fill hz]
  split
  · rename_i e
    rcases h with h | h
    · exact h
    · exact absurd e h.1
  · omega
theorem decS_full {i n q : Nat} {z : Vo} (hz : z.ca = true) (h : q ≤ i) : ∃ v, decS (fillV i n z) z.bt q = some v ∧ v.length = q := by
  have h1 : q ≤ (forL 0 (fillV i n z) z.bt).length := by rw [forL_fill hz, if_pos rfl]; exact h
  exact ⟨_, decS_some h1, by rw [List.length_take]; omega⟩
theorem comS_fill {i n q : Nat} {z : Vo} (hz : z.ca = true) (h : i < q) : comS q (fillV i n z) (fillV i n z) = none := comS_none fun _ _ => decS_fill hz (Or.inl h)
theorem comS_full {i n q : Nat} {z : Vo} (hz : z.ca = true) (h : q ≤ i) (h0 : 0 < q) (hn : n < 2 * q) (hi : i ≤ n) : ∃ v, comS q (fillV i n z) (fillV i n z) = some (z.bt, v) ∧ v.length = q := by
  obtain ⟨v, h1, h2⟩ := decS_full (n := n) hz h
  exact ⟨v, comS_of h0 (by rw [fillV_len hi]; exact hn) h1, h2⟩
theorem comS_fullN {n q : Nat} {z : Vo} (hz : z.ca = true) (h0 : 0 < q) (hn : n < 2 * q) (hq : q ≤ n) : ∃ v, comS q (fillV n n z) (fillV n n z) = some (z.bt, v) ∧ v.length = q := comS_full hz hq h0 hn (Nat.le_refl _)
theorem decS_off {n q : Nat} {b : List Rq} (h : 0 < q) : decS (List.replicate n offV) b q = none := decS_none (by rw [forL_rep, if_neg (fun e => by cases e.1)]; exact h)
theorem comS_off {n q : Nat} (h : 0 < q) : comS q (List.replicate n offV) (List.replicate n offV) = none := comS_none fun _ _ => decS_off h
end Go.Proofs.Ytcebnmhkbhhfiaa
namespace Go.Proofs.Ytcebnmhkbhhfiaa
open Go.RowKit
set_option linter.unusedSimpArgs false

/-- A vote as it lies. -/
structure Ve where
  o : Vo
  A : Option Addr
  c : Nat
def Ve.val (x : Ve) : Value := .slice x.A x.o.bt.length x.c
def Ve.cells (x : Ve) : List Value := [.bool x.o.ca, .int .i64 x.o.sg, .slice x.A x.o.bt.length x.c]
def veCells (M : List Ve) : List Value := M.flatMap Ve.cells
theorem ve_len (x : Ve) : x.cells.length = 3 := rfl
theorem veCells_len (M : List Ve) : (veCells M).length = M.length * 3 := flatMap_len ve_len M
theorem veCells_one (M : List Ve) : ∀ u ∈ veCells M, u.oneCell' = true := by
  intro u hu
  obtain ⟨v, _, hv⟩ := List.mem_flatMap.1 hu
  simp [Ve.cells] at hv
  rcases hv with rfl | rfl | rfl <;> rfl
theorem veCells_set {M : List Ve} {k : Nat} (h : k < M.length) (x : Ve) : (veCells M).take (k * 3) ++ x.cells ++ (veCells M).drop (k * 3 + 3) = veCells (M.set k x) := by
  induction M generalizing k with
  | nil => simp at h
  | cons y M ih =>
    cases k with
    | zero => rfl
    | succ k =>
      have := ih (k := k) (by simpa using h)
      show (y.cells ++ veCells M).take ((k + 1) * 3) ++ _ ++ (y.cells ++ veCells M).drop ((k + 1) * 3 + 3) = y.cells ++ veCells (M.set k x)
      rw [← this, show (k + 1) * 3 = k * 3 + 3 by omega]
      rfl
theorem info_ve : (Try.prog.info? 88).map (fun i => (i.zero, i.size, i.bytes)) = some (some (.agg #[.bool false, .int .i64 0, .slice none 0 0]), 3, 40) := by kernel_rfl
theorem own_to0 {w : World} {b n s : Nat} {e : TypeId} {v : Value} {xs : List Value} (h : w.ownsRow b e s v n xs) : w.ownsRow 0 e s v n xs := by
  refine ⟨h.1, ?_⟩
  rcases h.2 with h2 | ⟨a, b, d, e1, e2, e3⟩
  · exact Or.inl h2
  · exact Or.inr ⟨a, b, d, e1, Nat.zero_le _, e3⟩
/-- A batch of the call's own, in blocks of Z. -/
structure Bat (w : World) (Z : Nat → Prop) (v : Value) (l : List Rq) : Prop where
  own : w.ownsRow 0 71 6 v l.length (reqCells l)
  low : l.length ≤ 1000000
  zone : ∀ g, v.ownBlock = some g → Z g
/-- A row of votes. -/
structure Row (w : World) (Z : Nat → Prop) (v : Value) (L : List Vo) (M : List Ve) : Prop where
  is : M.map Ve.o = L
  own : w.ownsRow 0 88 3 v L.length (veCells M)
  all : ∀ x ∈ M, Bat w Z x.val x.o.bt
/-- The blocks of a slot, but for the batches. -/
def SZ (sb : Nat) (v1 v2 : Value) (k : Nat) : Prop := k = sb ∨ v1.ownBlock = some k ∨ v2.ownBlock = some k
/-- The slot in block sb, its rows where v1, v2 say, the batches in blocks of Z. -/
structure Sl (w : World) (Z : Nat → Prop) (sb : Nat) (v1 v2 : Value) (f : Int) (s : Sx) : Prop where
  f1 : 1 ≤ f
  f4 : f ≤ 4
  n1 : (s.P.length : Int) = 3 * f + 1
  n2 : (s.C.length : Int) = 3 * f + 1
  ne : v1.ownBlock ≠ v2.ownBlock
  mem : ∃ cv M1 M2, Blk w sb 67 #[.int .i64 f, .bool s.ch.isSome, cv, v1, v2] ∧ Bat w Z cv (s.ch.getD []) ∧ Row w Z v1 s.P M1 ∧ Row w Z v2 s.C M2
section
variable {w w' : World} {Z Z' Y : Nat → Prop} {v v1 v2 : Value} {l : List Rq} {L : List Vo} {M : List Ve} {sb : Nat} {f : Int} {s : Sx}
theorem Bat.kept (h : Bat w Z v l) (ht : Turn Y w w') (hy : ∀ g, v.ownBlock = some g → ¬ Y g) : Bat w' Z v l := ⟨ht.own h.own hy, h.low, h.zone⟩
theorem Bat.mono (h : Bat w Z v l) (hz : ∀ k, Z k → Z' k) : Bat w Z' v l := ⟨h.own, h.low, fun g hg => hz g (h.zone g hg)⟩
theorem Bat.lt (h : Bat w Z v l) : Bat w (fun k => k < w.heap.size) v l := ⟨h.own, h.low, fun g hg => (h.own.lt g hg).2⟩
theorem Bat.nil (w : World) (Z : Nat → Prop) : Bat w Z (.slice none 0 0) [] := ⟨World.ownsRow_nil _ _ _ _, Nat.zero_le _, fun _ h => by cases h⟩
theorem Bat.off {t : TypeId} {k : Nat} {cs : Array Value} (h : Bat w Z v l) (hb : Blk w k t cs) (ht : 71 ≠ t) : v.ownBlock ≠ some k := own_blk_ne h.own hb ht
theorem Bat.has (h : Bat w Z v l) : ∃ A c, v = .slice A l.length c ∧ l.length ≤ c ∧ Has w w.heap.size A (reqCells l) := by
  obtain ⟨A, c, rfl, h1, _⟩ := own_slice h.own
  exact ⟨A, c, rfl, h1, has_rows h.own⟩
theorem Row.len (h : Row w Z v L M) : M.length = L.length := by rw [← h.is, List.length_map]
theorem Row.kept (h : Row w Z v L M) (ht : Turn Y w w') (h1 : ∀ g, v.ownBlock = some g → ¬ Y g) (h2 : ∀ u b, Bat w Z u b → ∀ g, u.ownBlock = some g → ¬ Y g) : Row w' Z v L M :=
  ⟨h.is, ht.own h.own h1, fun x hx => (h.all x hx).kept ht (h2 _ _ (h.all x hx))⟩
theorem Row.mono (h : Row w Z v L M) (hz : ∀ k, Z k → Z' k) : Row w Z' v L M := ⟨h.is, h.own, fun x hx => (h.all x hx).mono hz⟩
theorem Row.at (h : Row w Z v L M) {k : Nat} (hk : k < L.length) : ∃ x, M[k]? = some x ∧ L[k]? = some x.o := by
  have hk' : k < M.length := by rw [h.len]; exact hk
  refine ⟨M[k], List.getElem?_eq_getElem hk', ?_⟩
  rw [← h.is, List.getElem?_map, List.getElem?_eq_getElem hk']
  rfl
theorem Row.nought (w : World) (Z : Nat → Prop) : Row w Z (.slice none 0 0) [] [] := ⟨rfl, World.ownsRow_nil _ _ _ _, fun _ h => by cases h⟩
/-- A vote's cells. -/
theorem Row.cells (h : Row w Z v L M) {k : Nat} (hk : k < L.length) : ∃ g c x, v = .slice (some ⟨g, 0, none⟩) L.length c ∧ M[k]? = some x ∧ L[k]? = some x.o ∧ w.cell? ⟨g, k * 3, none⟩ = some (.bool x.o.ca) ∧ w.cell? ⟨g, k * 3 + 1, none⟩ = some (.int .i64 x.o.sg) ∧ w.cell? ⟨g, k * 3 + 2, none⟩ = some (.slice x.A x.o.bt.length x.c) := by
  obtain ⟨x, h1, h2⟩ := h.at hk
  obtain ⟨A, c, hv, _, _⟩ := own_slice h.own
  have hk' : k < M.length := by rw [h.len]; exact hk
  have hg := h.own
  rw [hv] at hg
  have hh := has_rows hg
  obtain ⟨ad, e, hb, hc⟩ := hh.thing (f := Ve.cells) (s := 3) ve_len (by omega) hk'
  have hx : M[k] = x := by rw [List.getElem?_eq_getElem hk'] at h1; exact Option.some.inj h1
  rw [hx] at hc
  obtain ⟨g, cap, hv2, _, _⟩ := hg.form (by omega)
  injection hv2 with hv2
  subst hv2
  cases e
  refine ⟨g, c, x, hv, h1, h2, ?_, ?_, ?_⟩
  · have := hc 0 _ rfl; rwa [addr_at] at this
  · have := hc 1 _ rfl; rwa [addr_at] at this
  · have := hc 2 _ rfl; rwa [addr_at] at this
theorem Sl.lt (h : Sl w Z sb v1 v2 f s) {k : Nat} (hk : SZ sb v1 v2 k) : k < w.heap.size := by
  obtain ⟨cv, M1, M2, h1, _, h3, h4⟩ := h.mem
  rcases hk with rfl | hk | hk
  · exact h1.lt
  · exact (h3.own.lt k hk).2
  · exact (h4.own.lt k hk).2
/-- No batch lies in a block of a slot. -/
theorem Sl.apart (h : Sl w Z sb v1 v2 f s) {u : Value} (hb : Bat w Z' u l) {g : Nat} (hg : u.ownBlock = some g) : ¬ SZ sb v1 v2 g := by
  obtain ⟨cv, M1, M2, h1, _, h3, h4⟩ := h.mem
  rintro (rfl | hk | hk)
  · exact hb.off h1 (by decide) hg
  · rcases own_apart hb.own h3.own (by decide) with e | e
    · rw [e] at hg; cases hg
    · exact e (hg.trans hk.symm)
  · rcases own_apart hb.own h4.own (by decide) with e | e
    · rw [e] at hg; cases hg
    · exact e (hg.trans hk.symm)
theorem Sl.kept (h : Sl w Z sb v1 v2 f s) (ht : Turn Y w w') (h1 : ∀ k, SZ sb v1 v2 k → ¬ Y k) (h2 : ∀ u b, Bat w Z u b → ∀ g, u.ownBlock = some g → ¬ Y g) : Sl w' Z sb v1 v2 f s := by
  obtain ⟨cv, M1, M2, a, b, c, d⟩ := h.mem
  exact ⟨h.f1, h.f4, h.n1, h.n2, h.ne, cv, M1, M2, ht.blk a (h1 _ (Or.inl rfl)), b.kept ht (h2 _ _ b), c.kept ht (fun g hg => h1 g (Or.inr (Or.inl hg))) h2, d.kept ht (fun g hg => h1 g (Or.inr (Or.inr hg))) h2⟩
theorem Sl.below (h : Sl w Z sb v1 v2 f s) (hb : Below w.heap.size w w') : Sl w' Z sb v1 v2 f s := h.kept (Turn.of_below (Z := fun _ => False) hb) (fun _ _ => id) (fun _ _ _ _ _ => id)
theorem Sl.drewN (h : Sl w Z sb v1 v2 f s) (m : Nat) : Sl (w.drewN m) Z sb v1 v2 f s := h.kept ((Turn.refl (fun _ => False) w).drewN m) (fun _ _ => id) (fun _ _ _ _ _ => id)
theorem Sl.mono (h : Sl w Z sb v1 v2 f s) (hz : ∀ k, Z k → Z' k) : Sl w Z' sb v1 v2 f s := by
  obtain ⟨cv, M1, M2, a, b, c, d⟩ := h.mem
  exact ⟨h.f1, h.f4, h.n1, h.n2, h.ne, cv, M1, M2, a, b.mono hz, c.mono hz, d.mono hz⟩
theorem Sl.low (h : Sl w Z sb v1 v2 f s) : Sl w (fun k => k < w.heap.size) sb v1 v2 f s := by
  obtain ⟨cv, M1, M2, a, b, c, d⟩ := h.mem
  exact ⟨h.f1, h.f4, h.n1, h.n2, h.ne, cv, M1, M2, a, b.lt, ⟨c.is, c.own, fun x hx => (c.all x hx).lt⟩, ⟨d.is, d.own, fun x hx => (d.all x hx).lt⟩⟩
end
/-- What a call of a slot's leaves. -/
def SlPost (w : World) (Z : Nat → Prop) (sb : Nat) (v1 v2 : Value) (f : Int) (s : Sx) (w' : World) : Prop :=
  ∃ u1 u2, Sl w' (fun k => Z k ∨ w.heap.size ≤ k) sb u1 u2 f s ∧ (∀ g, SZ sb u1 u2 g → SZ sb v1 v2 g ∨ w.heap.size ≤ g) ∧ Turn (SZ sb v1 v2) w w'
section
variable {w w' : World} {Z Z' Y : Nat → Prop} {v v1 v2 : Value} {l : List Rq} {L : List Vo} {M : List Ve} {sb : Nat} {f : Int} {s : Sx}
theorem SlPost.same (h : Sl w Z sb v1 v2 f s) (hb : Below w.heap.size w w') : SlPost w Z sb v1 v2 f s w' := ⟨v1, v2, (h.below hb).mono (fun _ hk => Or.inl hk), fun _ hg => Or.inl hg, Turn.of_below hb⟩
def rowOfK (kd : Int) (v1 v2 : Value) : Value := if kd = 4 then v1 else if kd = 5 then v2 else .slice none 0 0
def voOfK (kd : Int) (s : Sx) : List Vo := if kd = 4 then s.P else if kd = 5 then s.C else []
theorem svotes_any (h : Sl w Z sb v1 v2 f s) (kd : Int) : Calls Try.prog 70 #[.pointer (some ⟨sb, 0, none⟩), .int .i64 kd] w fun e w' => e = .returned (rowOfK kd v1 v2) ∧ w = w' := by
  obtain ⟨cv, M1, M2, h1, _, h3, h4⟩ := h.mem
  have c3 := h1.cell 3
  have c4 := h1.cell 4
  simp only [List.getElem?_toArray, List.getElem?_cons_zero, List.getElem?_cons_succ] at c3 c4
  obtain ⟨A1, d1, rfl, -, -⟩ := own_slice h3.own
  obtain ⟨A2, d2, rfl, -, -⟩ := own_slice h4.own
  obtain ⟨n1, hn1⟩ : ∃ n, s.P.length = n := ⟨_, rfl⟩
  obtain ⟨n2, hn2⟩ : ∃ n, s.C.length = n := ⟨_, rfl⟩
  rw [hn1] at c3 ⊢
  rw [hn2] at c4 ⊢
  clear h h1 h3 h4 hn1 hn2
  by_cases k4 : kd = 4
  · subst k4
    go_enter Try.func70, Try.ntmps70
    go_wp2
    go_ret
    exact ⟨rfl, rfl⟩
  · have g4 : (kd == 4) = false := by simp [k4]
    by_cases k5 : kd = 5
    · subst k5
      go_enter Try.func70, Try.ntmps70
      go_wp2
      go_ret
      exact ⟨rfl, rfl⟩
    · have g5 : (kd == 5) = false := by simp [k5]
      have HE := Lib.hid (show ∀ x y : Value, rowOfK kd x y = .slice none 0 0 from fun x y => by unfold rowOfK; rw [if_neg k4, if_neg k5])
      clear k4 k5
      go_enter Try.func70, Try.ntmps70
      go_wp2
      go_ret
      exact ⟨by rw [HE.out]; rfl, rfl⟩
theorem Sl.rowK (h : Sl w Z sb v1 v2 f s) (kd : Int) : ∃ M, Row w Z (rowOfK kd v1 v2) (voOfK kd s) M := by
  obtain ⟨cv, M1, M2, _, _, h3, h4⟩ := h.mem
  unfold rowOfK voOfK
  by_cases k4 : kd = 4
  · rw [if_pos k4, if_pos k4]; exact ⟨M1, h3⟩
  · rw [if_neg k4, if_neg k4]
    by_cases k5 : kd = 5
    · rw [if_pos k5, if_pos k5]; exact ⟨M2, h4⟩
    · rw [if_neg k5, if_neg k5]; exact ⟨[], Row.nought _ _⟩
theorem Sl.lenK (h : Sl w Z sb v1 v2 f s) (kd : Int) : (voOfK kd s).length ≤ 13 := by
  have := h.n1
  have := h.n2
  have := h.f4
  unfold voOfK
  split
  · omega
  · split
    · omega
    · simp
theorem Sx.voted_is (s : Sx) (kd k : Int) : s.voted kd k = hadS (voOfK kd s) k := by
  unfold Sx.voted voOfK
  split
  · rfl
  · split
    · rfl
    · rw [hadS_bad (L := []) (by simp; omega)]
end
end Go.Proofs.Ytcebnmhkbhhfiaa
namespace Go.Proofs.Ytcebnmhkbhhfiaa
open Go.RowKit
set_option linter.unusedSimpArgs false

section
variable {w w2 : World} {Z : Nat → Prop} {v v1 v2 : Value} {l b : List Rq} {L : List Vo} {M : List Ve} {sb : Nat} {f : Int} {s : Sx}
theorem Row.put (hr : Row w Z v L M) {k g c : Nat} (hv : v = .slice (some ⟨g, 0, none⟩) L.length c) (hk : k < L.length) (hb : Below w.heap.size w w2) {A : Option Addr} {d : Nat} (hbat : Bat w2 (fun j => w.heap.size ≤ j) (.slice A b.length d) b) (sg : Int) :
    ∃ M', Row (((w2.setCell ⟨g, k * 3, none⟩ (.bool true)).setCell ⟨g, k * 3 + 1, none⟩ (.int .i64 sg)).setCell ⟨g, k * 3 + 2, none⟩ (.slice A b.length d)) (fun j => Z j ∨ w.heap.size ≤ j) v (L.set k ⟨true, sg, b⟩) M' ∧
    Turn (fun j => v.ownBlock = some j) w (((w2.setCell ⟨g, k * 3, none⟩ (.bool true)).setCell ⟨g, k * 3 + 1, none⟩ (.int .i64 sg)).setCell ⟨g, k * 3 + 2, none⟩ (.slice A b.length d)) := by
  have hk' : k < M.length := by rw [hr.len]; exact hk
  have ho2 := below_own hr.own hb (Nat.le_refl _)
  have ht2 : Turn (fun j => v.ownBlock = some j) w2 (((w2.setCell ⟨g, k * 3, none⟩ (.bool true)).setCell ⟨g, k * 3 + 1, none⟩ (.int .i64 sg)).setCell ⟨g, k * 3 + 2, none⟩ (.slice A b.length d)) := by
    have hz : v.ownBlock = some g := by rw [hv]; rfl
    exact (((Turn.refl _ w2).set_ _ _ hz).set_ _ _ hz).set_ _ _ hz
  have hoff : ∀ {Z' : Nat → Prop} {u : Value} {y : List Rq}, Bat w2 Z' u y → ∀ j, u.ownBlock = some j → ¬ v.ownBlock = some j := fun hu j hj e => by
    rcases own_apart hu.own ho2 (by decide) with h | h
    · rw [h] at hj; cases hj
    · exact h (hj.trans e.symm)
  refine ⟨M.set k ⟨⟨true, sg, b⟩, A, d⟩, ⟨?_, ?_, fun x hx => ?_⟩, (Turn.of_below hb).trans ht2⟩
  · rw [List.map_set, hr.is]
  · rw [hv] at ho2
    have h1 := own_cells ho2 (o := k * 3) (vs := [.bool true, .int .i64 sg, .slice A b.length d]) (by show k * 3 + 3 ≤ L.length * 3; omega)
    have h2 := veCells_set hk' ⟨⟨true, sg, b⟩, A, d⟩
    rw [List.length_set, hv, ← h2]
    exact h1
  · rcases List.mem_or_eq_of_mem_set hx with hx | rfl
    · have h1 := (hr.all x hx)
      have h2 : Bat w2 Z x.val x.o.bt := h1.kept (Turn.of_below (Z := fun _ => False) hb) (fun _ _ => id)
      exact (h2.kept ht2 (hoff h2)).mono (fun _ hj => Or.inl hj)
    · exact (hbat.kept ht2 (hoff hbat)).mono (fun _ hj => Or.inr hj)
/-- What Vote does to a row. -/
def VotePost (w : World) (Z : Nat → Prop) (v : Value) (L : List Vo) (w' : World) : Prop := ∃ M', Row w' (fun j => Z j ∨ w.heap.size ≤ j) v L M' ∧ Turn (fun j => v.ownBlock = some j) w w'
set_option maxHeartbeats 2000000 in
theorem svote_row (h : Sl w Z sb v1 v2 f s) (kd k sg : Int) {A : Option Addr} {n c B : Nat} (hb : Has w B A (reqCells b)) (hn : b.length = n) (hm : n ≤ 1000000) :
    Calls Try.prog 25 #[.pointer (some ⟨sb, 0, none⟩), .int .i64 kd, .int .i64 k, .int .i64 sg, .slice A n c] w fun e w' => e = .returned (.bool (votS (voOfK kd s) k sg b).1) ∧ VotePost w Z (rowOfK kd v1 v2) (votS (voOfK kd s) k sg b).2 w' := by
  have HC := Lib.hid (svotes_any h kd)
  obtain ⟨M, hr⟩ := h.rowK kd
  have HR := Lib.hid hr
  obtain ⟨L, hL⟩ : ∃ L, voOfK kd s = L := ⟨_, rfl⟩
  obtain ⟨v, hv⟩ : ∃ v, rowOfK kd v1 v2 = v := ⟨_, rfl⟩
  rw [hL] at HR hr ⊢
  rw [hv] at HC hr HR ⊢
  have HS := Lib.hid (show VotePost w Z v L w from ⟨M, hr.mono (fun _ hj => Or.inl hj), Turn.refl _ _⟩)
  have HB := Lib.hid (fun w => mq_clone (w := w) (c := c) (A := A) (zs := b) (n := n) (B := B))
  have HH := Lib.hid hb
  clear h hL hv hb
  by_cases hk : 0 ≤ k ∧ k < L.length
  · obtain ⟨m, rfl⟩ := Int.eq_ofNat_of_zero_le hk.1
    have hm' : m < L.length := by omega
    obtain ⟨g, c', x, rfl, _, hx, c0, c1, c2⟩ := hr.cells hm'
    cases hca : x.o.ca with
    | true =>
      rw [votS_had hx hca]
      rw [hca] at c0
      obtain ⟨n', hn'⟩ : ∃ n, L.length = n := ⟨_, rfl⟩
      rw [hn'] at HC hm' HS ⊢
      have hmi : (m : Int) < (n' : Int) := by omega
      have hmi2 : decide ((n' : Int) ≤ (m : Int)) = false := decide_eq_false (by omega)
      clear hr HR hk hx hca hn' c1 c2
      go_enter Try.func25, Try.ntmps25
      go_wp2_with fail
      refine HC.out.mono ?_
      rintro e w1 ⟨rfl, rfl⟩
      go_wp2_with fail
      go_ret
      exact ⟨rfl, HS.out⟩
    | false =>
      rw [votS_new hx hca]
      rw [hca] at c0
      have HBw := Lib.hid (HB.out w HH.out hn hm)
      have HSet := Lib.hid (fun (w2 : World) (A2 : Option Addr) (d : Nat) (hb : Below w.heap.size w w2) (hbat : Bat w2 (fun j => w.heap.size ≤ j) (.slice A2 b.length d) b) => HR.out.put rfl hm' hb hbat sg)
      have HCells := Lib.hid (fun (w2 : World) (hb : Below w.heap.size w w2) => show (w2.cell? ⟨g, m * 3, none⟩ = some (.bool false) ∧ w2.cell? ⟨g, m * 3 + 1, none⟩ = some (.int .i64 x.o.sg) ∧ w2.cell? ⟨g, m * 3 + 2, none⟩ = some (.slice x.A x.o.bt.length x.c)) ∧ w2.frozen? ⟨g, m * 3, none⟩ = false ∧ w2.frozen? ⟨g, m * 3 + 1, none⟩ = false ∧ w2.frozen? ⟨g, m * 3 + 2, none⟩ = false from by
        have hg : g < w.heap.size := block_lt c0
        have ho2 := below_own HR.out.own hb (Nat.le_refl _)
        exact ⟨⟨(hb.cell hg).trans c0, (hb.cell hg).trans c1, (hb.cell hg).trans c2⟩, ho2.frozenAt _, ho2.frozenAt _, ho2.frozenAt _⟩)
      obtain ⟨n', hn'⟩ : ∃ n, L.length = n := ⟨_, rfl⟩
      rw [hn'] at HC hm' HSet ⊢
      obtain ⟨sg0, hsg0⟩ : ∃ y, x.o.sg = y := ⟨_, rfl⟩
      obtain ⟨n0, hn0⟩ : ∃ y, x.o.bt.length = y := ⟨_, rfl⟩
      rw [hsg0, hn0] at HCells
      have hmi : (m : Int) < (n' : Int) := by omega
      have hmi2 : decide ((n' : Int) ≤ (m : Int)) = false := decide_eq_false (by omega)
      have HN := Lib.hid hn
      have HM := Lib.hid hm
      clear hr HR hk hx hca hn' c1 c2 HS HB HH hn hm hsg0 hn0
      go_enter Try.func25, Try.ntmps25
      go_wp2_with fail
      refine HC.out.mono ?_
      rintro e w1 ⟨rfl, rfl⟩
      go_wp2_with fail
      refine HBw.out.mono ?_
      rintro e w2 ⟨u, rfl, ho, hb⟩
      obtain ⟨A2, d2, rfl, -, -⟩ := own_slice ho
      obtain ⟨⟨e0, e1, e2⟩, f0, f1, f2⟩ := HCells.out w2 hb
      have HF := Lib.hid (HSet.out w2 A2 d2 hb ⟨by rw [HN.out]; exact own_to0 ho, by rw [HN.out]; exact HM.out, fun j hj => (ho.lt j (by rw [HN.out] at hj; exact hj)).1⟩)
      rw [HN.out] at HF
      clear ho hb c0
      go_wp2_with fail
      go_ret
      exact ⟨rfl, HF.out⟩
  · rw [votS_bad (by omega)]
    obtain ⟨A', c', rfl, -, -⟩ := own_slice hr.own
    obtain ⟨n', hn'⟩ : ∃ n, L.length = n := ⟨_, rfl⟩
    rw [hn'] at HC hk HS ⊢
    clear hr HR hn'
    by_cases h0 : k < 0
    · have g0 : decide (k < 0) = true := decide_eq_true h0
      clear hk h0
      go_enter Try.func25, Try.ntmps25
      go_wp2_with fail
      refine HC.out.mono ?_
      rintro e w1 ⟨rfl, rfl⟩
      go_wp2_with fail
      go_ret
      exact ⟨rfl, HS.out⟩
    · have g0 : decide (k < 0) = false := decide_eq_false h0
      have g1 : decide ((n' : Int) ≤ k) = true := decide_eq_true (by omega)
      clear hk h0
      go_enter Try.func25, Try.ntmps25
      go_wp2_with fail
      refine HC.out.mono ?_
      rintro e w1 ⟨rfl, rfl⟩
      go_wp2_with fail
      go_ret
      exact ⟨rfl, HS.out⟩
/-- Vote, whatever it is asked. -/
theorem svote_any (h : Sl w Z sb v1 v2 f s) (kd k sg : Int) {A : Option Addr} {n c B : Nat} (hb : Has w B A (reqCells b)) (hn : b.length = n) (hm : n ≤ 1000000) :
    Calls Try.prog 25 #[.pointer (some ⟨sb, 0, none⟩), .int .i64 kd, .int .i64 k, .int .i64 sg, .slice A n c] w fun e w' => e = .returned (.bool (s.vote kd k sg b).1) ∧ SlPost w Z sb v1 v2 f (s.vote kd k sg b).2 w' := by
  refine (svote_row (c := c) h kd k sg hb hn hm).mono ?_
  rintro e w' ⟨rfl, M', hr, ht⟩
  obtain ⟨cv, M1, M2, h1, h2, h3, h4⟩ := h.mem
  have hmn : ∀ j, Z j → Z j ∨ w.heap.size ≤ j := fun _ hj => Or.inl hj
  unfold Sx.vote
  unfold voOfK rowOfK at *
  by_cases k4 : kd = 4
  · rw [if_pos k4] at *
    rw [if_pos k4] at *
    have hz : ∀ j, v1.ownBlock = some j → ¬ v2.ownBlock = some j := fun j e1 e2 => h.ne (e1.trans e2.symm)
    have hbt : ∀ {Z' : Nat → Prop} {u : Value} {y : List Rq}, Bat w Z' u y → ∀ j, u.ownBlock = some j → ¬ v1.ownBlock = some j := fun hu j hj e => h.apart hu hj (Or.inr (Or.inl e))
    refine ⟨rfl, v1, v2, ⟨h.f1, h.f4, ?_, h.n2, h.ne, cv, M', M2, ht.blk h1 (own_blk_ne h3.own h1 (by decide)), (h2.kept ht (hbt h2)).mono hmn, hr, (h4.kept ht (fun j e2 e1 => hz j e1 e2) (fun _ _ hu => hbt hu)).mono hmn⟩, fun _ hg => Or.inl hg, ht.mono (fun _ _ hj => Or.inr (Or.inl hj))⟩
    rw [votS_len]; exact h.n1
  · rw [if_neg k4] at *
    rw [if_neg k4] at *
    by_cases k5 : kd = 5
    · rw [if_pos k5] at *
      rw [if_pos k5] at *
      have hz : ∀ j, v1.ownBlock = some j → ¬ v2.ownBlock = some j := fun j e1 e2 => h.ne (e1.trans e2.symm)
      have hbt : ∀ {Z' : Nat → Prop} {u : Value} {y : List Rq}, Bat w Z' u y → ∀ j, u.ownBlock = some j → ¬ v2.ownBlock = some j := fun hu j hj e => h.apart hu hj (Or.inr (Or.inr e))
      refine ⟨rfl, v1, v2, ⟨h.f1, h.f4, h.n1, ?_, h.ne, cv, M1, M', ht.blk h1 (own_blk_ne h4.own h1 (by decide)), (h2.kept ht (hbt h2)).mono hmn, (h3.kept ht (fun j e1 e2 => hz j e1 e2) (fun _ _ hu => hbt hu)).mono hmn, hr⟩, fun _ hg => Or.inl hg, ht.mono (fun _ _ hj => Or.inr (Or.inr hj))⟩
      rw [votS_len]; exact h.n2
    · rw [if_neg k5] at *
      rw [if_neg k5] at *
      have ht' : Turn (fun _ => False) w w' := ht.mono (fun _ _ hj => by cases hj)
      refine ⟨by rw [votS_bad (by simp; omega)], v1, v2, (h.kept ht' (fun _ _ => id) (fun _ _ _ _ _ => id)).mono hmn, fun _ hg => Or.inl hg, ht'.mono (fun _ _ hj => hj.elim)⟩
end
end Go.Proofs.Ytcebnmhkbhhfiaa
namespace Go.Proofs.Ytcebnmhkbhhfiaa
open Go.RowKit
set_option linter.unusedSimpArgs false

section
variable {w w2 : World} {Z : Nat → Prop} {v v1 v2 : Value} {l b : List Rq} {L : List Vo} {M : List Ve} {sb : Nat} {f : Int} {s : Sx}
set_option maxHeartbeats 1000000 in
theorem spre_any (h : Sl w Z sb v1 v2 f s) {A : Option Addr} {n c B : Nat} (hb : Has w B A (reqCells b)) (hn : b.length = n) (hm : n ≤ 1000000) :
    Calls Try.prog 23 #[.pointer (some ⟨sb, 0, none⟩), .slice A n c] w fun e w' => e = .returned (.bool (!s.ch.isSome)) ∧ SlPost w Z sb v1 v2 f (s.pre b) w' := by
  cases hc : s.ch with
  | some y =>
    have HS := Lib.hid (SlPost.same h (Below.refl _ _))
    obtain ⟨cv, M1, M2, h1, h2, h3, h4⟩ := h.mem
    have c1 := h1.cell 1
    simp only [List.getElem?_toArray, List.getElem?_cons_zero, List.getElem?_cons_succ, hc, Option.isSome_some] at c1
    have HE := Lib.hid (show s.pre b = s by unfold Sx.pre; rw [hc]; rfl)
    clear h h1 h2 h3 h4 hc hb hn hm
    go_enter Try.func23, Try.ntmps23
    go_wp2
    go_ret
    exact ⟨rfl, by rw [HE.out]; exact HS.out⟩
  | none =>
    have HSl := Lib.hid h
    obtain ⟨cv, M1, M2, h1, h2, h3, h4⟩ := h.mem
    have HB1 := Lib.hid h1
    have c1 := h1.cell 1
    simp only [List.getElem?_toArray, List.getElem?_cons_zero, List.getElem?_cons_succ, hc, Option.isSome_none] at c1
    obtain ⟨Ac, cc, rfl, -, -⟩ := own_slice h2.own
    obtain ⟨nc, hnc⟩ : ∃ y, (s.ch.getD []).length = y := ⟨_, rfl⟩
    have HMem := Lib.hid (And.intro h2 (And.intro h3 h4))
    rw [hnc] at HB1 HMem
    have HC := Lib.hid hc
    have HE := Lib.hid (show s.pre b = ⟨some b, s.P, s.C⟩ by unfold Sx.pre; rw [hc]; rfl)
    have HBw := Lib.hid (mq_clone (c := c) hb hn hm)
    have HN := Lib.hid hn
    have HM := Lib.hid hm
    clear h h1 h2 h3 h4 hc hb hn hm hnc
    go_enter Try.func23, Try.ntmps23
    go_wp2_with fail
    refine HBw.out.mono ?_
    rintro e w2 ⟨u, rfl, ho, hb⟩
    have k2 := HB1.out.below hb HB1.out.lt
    have e1 := k2.cell 1
    have e2 := k2.cell 2
    have f1 := k2.frozen 1
    have f2 := k2.frozen 2
    simp only [List.getElem?_toArray, List.getElem?_cons_zero, List.getElem?_cons_succ, HC.out, Option.isSome_none] at e1 e2
    have HK2 := Lib.hid k2
    have HO := Lib.hid ho
    have HBb := Lib.hid hb
    clear k2 hb
    obtain ⟨A2, d2, rfl, -, -⟩ := own_slice ho
    clear ho
    go_wp2_with fail
    go_ret
    refine ⟨rfl, ?_⟩
    rw [HE.out]
    have hmn : ∀ j, Z j → Z j ∨ w.heap.size ≤ j := fun _ hj => Or.inl hj
    have hS2 := HSl.out.below HBb.out
    have ht2 : Turn (fun j => j = sb) w2 ((w2.setCell ⟨sb, 1, none⟩ (.bool true)).setCell ⟨sb, 2, none⟩ (.slice A2 n d2)) := ((Turn.refl (fun j => j = sb) w2).set_ ⟨sb, 1, none⟩ _ rfl).set_ ⟨sb, 2, none⟩ _ rfl
    have hoff : ∀ {Z' : Nat → Prop} {u : Value} {y : List Rq}, Bat w2 Z' u y → ∀ j, u.ownBlock = some j → ¬ j = sb := fun hu j hj e => hS2.apart hu hj (Or.inl e)
    obtain ⟨h2, h3, h4⟩ := HMem.out
    have hF : ∀ {Z' : Nat → Prop} {u : Value} {y : List Rq}, Bat w Z' u y → Bat w2 Z' u y := fun hu => hu.kept (Turn.of_below (Z := fun _ => False) HBb.out) (fun _ _ => id)
    have hR : ∀ {u : Value} {L : List Vo} {M : List Ve}, Row w Z u L M → u.ownBlock ≠ some sb → Row ((w2.setCell ⟨sb, 1, none⟩ (.bool true)).setCell ⟨sb, 2, none⟩ (.slice A2 n d2)) (fun j => Z j ∨ w.heap.size ≤ j) u L M := fun hu hne =>
      (((hu.kept (Turn.of_below (Z := fun _ => False) HBb.out) (fun _ _ => id) (fun _ _ _ _ _ => id)).kept ht2 (fun j hj e => hne (by rw [hj, e])) (fun _ _ hb => hoff hb)).mono hmn)
    have hnew : Bat w2 (fun j => w.heap.size ≤ j) (.slice A2 n d2) b := ⟨by rw [HN.out]; exact own_to0 HO.out, by rw [HN.out]; exact HM.out, fun j hj => (HO.out.lt j hj).1⟩
    refine ⟨v1, v2, ⟨HSl.out.f1, HSl.out.f4, HSl.out.n1, HSl.out.n2, HSl.out.ne, .slice A2 n d2, M1, M2, ?_, ?_, hR h3 (own_blk_ne h3.own HB1.out (by decide)), hR h4 (own_blk_ne h4.own HB1.out (by decide))⟩, fun _ hg => Or.inl hg, ?_⟩
    · exact (HK2.out.set_ 1 _).set_ 2 _
    · exact (hnew.kept ht2 (hoff hnew)).mono (fun _ hj => Or.inr hj)
    · exact (Turn.of_below HBb.out).trans (ht2.mono (fun _ _ hj => Or.inl hj))
set_option maxHeartbeats 1000000 in
theorem schosen_any (h : Sl w Z sb v1 v2 f s) : Calls Try.prog 32 #[.pointer (some ⟨sb, 0, none⟩)] w fun e w' => ∃ u, e = .returned (.tuple #[u, .bool s.ch.isSome]) ∧ w'.ownsRow w.heap.size 71 6 u (s.ch.getD []).length (reqCells (s.ch.getD [])) ∧ Below w.heap.size w w' := by
  obtain ⟨cv, M1, M2, h1, h2, h3, h4⟩ := h.mem
  have HK := Lib.hid h1
  have HLow := h2.low
  obtain ⟨A, c, rfl, _, hh⟩ := h2.has
  obtain ⟨y, hy⟩ : ∃ y, s.ch.getD [] = y := ⟨_, rfl⟩
  obtain ⟨b0, hb0⟩ : ∃ y, s.ch.isSome = y := ⟨_, rfl⟩
  rw [hy] at HLow hh ⊢
  rw [hy, hb0] at HK
  rw [hb0]
  obtain ⟨n, hn⟩ : ∃ y', y.length = y' := ⟨_, rfl⟩
  rw [hn] at HK HLow ⊢
  have HC := Lib.hid (mq_clone (w := w.drew) (c := c) hh.drew hn HLow)
  have c1 : w.drew.cell? ⟨sb, 1, none⟩ = some (.bool b0) := HK.out.cell 1
  have c2 : w.drew.cell? ⟨sb, 2, none⟩ = some (.slice A n c) := HK.out.cell 2
  clear h h1 h2 h3 h4 hy hb0 hn hh HLow
  go_enter Try.func32, Try.ntmps32
  go_wp2_with fail
  go_region_held3 (fun w' => w'.cell? ⟨sb, 1, none⟩ = some (.bool b0) ∧ w'.cell? ⟨sb, 2, none⟩ = some (.slice A n c)) (first | exact ⟨c1, c2⟩ | exact hq2 | go_keep)
    ((go_at_call 68; refine HC.out.mono ?_; rintro e w2 ⟨v', rfl, ho, hb⟩; have hbk := HK.out.drew.below hb HK.out.lt; have hq2 : w2.cell? ⟨sb, 1, none⟩ = some (.bool b0) ∧ w2.cell? ⟨sb, 2, none⟩ = some (.slice A n c) := ⟨hbk.cell 1, hbk.cell 2⟩; obtain ⟨A2, d2, rfl, -, -⟩ := own_slice ho))
  have HO := Lib.hid ho
  have HB := Lib.hid (show Below w.heap.size w w2 from Below.trans (⟨rfl, rfl, rfl, Nat.le_refl _, fun _ _ => rfl⟩ : Below w.heap.size w w.drew) hb)
  clear ho hb hbk hq2 c1 c2
  go_wp2_with fail
  go_ret2
  exact ⟨_, rfl, HO.out, HB.out⟩
end
/-! ### Reset, New -/
def blankE : Ve := ⟨offV, none, 0⟩
theorem made_ves (n : Nat) : madeCells #[.bool false, .int .i64 0, .slice none 0 0] (n * 3) = (veCells (List.replicate n blankE)).toArray := by
  apply Array.ext_getElem?
  intro j
  by_cases hj : j < n * 3
  · have hk : j / 3 < n := by omega
    have hk2 : j / 3 < (List.replicate n blankE).length := by simpa using hk
    have hi : j % 3 < 3 := Nat.mod_lt _ (by omega)
    have h1 := flatMap_at (f := Ve.cells) ve_len hk2 hi
    have h2 : j / 3 * 3 + j % 3 = j := by omega
    rw [h2] at h1
    refine Eq.trans ?_ (List.getElem?_toArray (xs := veCells (List.replicate n blankE))).symm
    rw [show (veCells (List.replicate n blankE))[j]? = _ from h1, List.getElem_replicate]
    have h3 : j % 3 = 0 ∨ j % 3 = 1 ∨ j % 3 = 2 := by omega
    rcases h3 with h3 | h3 | h3 <;> (simp [madeCells, hj, h3, Ve.cells, blankE, offV])
  · rw [Array.getElem?_eq_none (by rw [size_madeCells]; omega), Array.getElem?_eq_none (by rw [List.size_toArray, veCells_len, List.length_replicate]; omega)]
theorem run_make_ves {n : Nat} (h : n ≤ 13) (w : World) :
    (Instr.makeSlice 65 (.int .i64 (n : Int)) (.int .i64 (n : Int))).run Try.prog w = .ok (.slice (some ⟨w.heap.size, 0, none⟩) n n) (w.alloc (.cells (veCells (List.replicate n blankE)).toArray 88)) := by
  obtain ⟨i0, hi0, hz0, hz1, hz2⟩ := info_parts info_ve
  have hr := run_make (P := Try.prog) w 65 88 i0 _ Try.underlying65 hi0 hz0 .i64 .i64 n n (by omega) (by omega) (by rw [hz2]; omega) (by omega)
  simp only [Int.toNat_natCast] at hr
  rw [hz1] at hr
  rw [← made_ves]
  exact hr
theorem row_made (w : World) (Z : Nat → Prop) {n : Nat} (h : n ≤ 13) (g : Nat) (hb : Blk w g 88 (veCells (List.replicate n blankE)).toArray) : Row w Z (.slice (some ⟨g, 0, none⟩) n n) (List.replicate n offV) (List.replicate n blankE) := by
  refine ⟨by simp [blankE], ⟨by rw [veCells_len, List.length_replicate, List.length_replicate], Or.inr ⟨g, n, _, by rw [List.length_replicate], Nat.zero_le _, hb, by rw [List.length_replicate]; exact Nat.le_refl _, by unfold maxLen; omega, by rw [List.size_toArray, veCells_len, List.length_replicate], ?_⟩⟩, fun x hx => ?_⟩
  · rw [List.length_replicate, List.take_of_length_le]
    rw [List.toList_toArray, veCells_len, List.length_replicate]; exact Nat.le_refl _
  · obtain rfl := List.eq_of_mem_replicate hx
    exact Bat.nil _ _
theorem reset_fin {w w2 : World} {sb g1 g2 : Nat} {f : Int} {c1 c2 c3 c4 : Value} {cs : Array Value} (h : Blk w2 sb 67 #[.int .i64 f, c1, c2, c3, c4]) (h1 : Blk w2 g1 88 cs) (h2 : Blk w2 g2 88 cs) (ht : Turn (fun k => k = sb) w w2) (n1 : g1 ≠ sb) (n2 : g2 ≠ sb) (x y : Value) :
    Blk ((((((w2.setCell ⟨sb, 0, none⟩ (.int .i64 f)).setCell ⟨sb, 1, none⟩ (.bool false)).setCell ⟨sb, 2, none⟩ (.slice none 0 0)).setCell ⟨sb, 3, none⟩ x).setCell ⟨sb, 4, none⟩ y).drew) sb 67 #[.int .i64 f, .bool false, .slice none 0 0, x, y] ∧
    Turn (fun k => k = sb) w ((((((w2.setCell ⟨sb, 0, none⟩ (.int .i64 f)).setCell ⟨sb, 1, none⟩ (.bool false)).setCell ⟨sb, 2, none⟩ (.slice none 0 0)).setCell ⟨sb, 3, none⟩ x).setCell ⟨sb, 4, none⟩ y).drew) ∧
    Blk ((((((w2.setCell ⟨sb, 0, none⟩ (.int .i64 f)).setCell ⟨sb, 1, none⟩ (.bool false)).setCell ⟨sb, 2, none⟩ (.slice none 0 0)).setCell ⟨sb, 3, none⟩ x).setCell ⟨sb, 4, none⟩ y).drew) g1 88 cs ∧
    Blk ((((((w2.setCell ⟨sb, 0, none⟩ (.int .i64 f)).setCell ⟨sb, 1, none⟩ (.bool false)).setCell ⟨sb, 2, none⟩ (.slice none 0 0)).setCell ⟨sb, 3, none⟩ x).setCell ⟨sb, 4, none⟩ y).drew) g2 88 cs :=
  ⟨(((((h.set_ 0 _).set_ 1 _).set_ 2 _).set_ 3 _).set_ 4 _).drew, (((((ht.set_ ⟨sb, 0, none⟩ _ rfl).set_ ⟨sb, 1, none⟩ _ rfl).set_ ⟨sb, 2, none⟩ _ rfl).set_ ⟨sb, 3, none⟩ _ rfl).set_ ⟨sb, 4, none⟩ _ rfl).drewN 1,
    (((((h1.far n1 _).far n1 _).far n1 _).far n1 _).far n1 _).drew, (((((h2.far n2 _).far n2 _).far n2 _).far n2 _).far n2 _).drew⟩
set_option maxHeartbeats 2000000 in
/-- The slot's cells behind Reset. -/
theorem sreset_cells {w : World} {sb n : Nat} {f : Int} (h1 : 1 ≤ f) (h4 : f ≤ 4) (hn : (n : Int) = 3 * f + 1) {c1 c2 c3 c4 : Value} (hb : Blk w sb 67 #[.int .i64 f, c1, c2, c3, c4]) :
    Calls Try.prog 22 #[.pointer (some ⟨sb, 0, none⟩)] w fun e w' => e = .returned (.tuple #[]) ∧ ∃ g1 g2, Blk w' sb 67 #[.int .i64 f, .bool false, .slice none 0 0, .slice (some ⟨g1, 0, none⟩) n n, .slice (some ⟨g2, 0, none⟩) n n] ∧
      Blk w' g1 88 (veCells (List.replicate n blankE)).toArray ∧ Blk w' g2 88 (veCells (List.replicate n blankE)).toArray ∧ g1 ≠ g2 ∧ w.heap.size ≤ g1 ∧ w.heap.size ≤ g2 ∧ Turn (fun k => k = sb) w w' := by
  have HN := Lib.hid (fun (w : World) => (show Calls Try.prog 67 #[.int .i64 f] w fun e w' => e = .returned (.int .i64 (n : Int)) ∧ w' = w from by
    have := bnodes_any f w
    rw [nodesS_in h1 h4, ← hn] at this
    exact this.mono fun _ _ he => ⟨he.1, he.2.symm⟩))
  have hmk := run_make_ves (n := n) (by omega)
  have HB := Lib.hid hb
  obtain ⟨cs, hcs⟩ : ∃ cs, (veCells (List.replicate n blankE)).toArray = cs := ⟨_, rfl⟩
  rw [hcs] at hmk ⊢
  have k0 : w.cell? ⟨sb, 0, none⟩ = some (.int .i64 f) := HB.out.cell 0
  have l0 : w.drew.cell? ⟨sb, 0, none⟩ = some (.int .i64 f) := HB.out.cell 0
  have a0 : (w.alloc (.cells cs 88)).cell? ⟨sb, 0, none⟩ = some (.int .i64 f) := (HB.out.alloc _).cell 0
  have HB2 := Lib.hid (show Blk ((w.alloc (.cells cs 88)).alloc (.cells cs 88)) sb 67 #[.int .i64 f, c1, c2, c3, c4] from (HB.out.alloc _).alloc _)
  have HG1 := Lib.hid (show Blk ((w.alloc (.cells cs 88)).alloc (.cells cs 88)) w.heap.size 88 cs from (Blk.new w _ _).alloc _)
  have HG2 := Lib.hid (show Blk ((w.alloc (.cells cs 88)).alloc (.cells cs 88)) (w.heap.size + 1) 88 cs from Blk.new1 w _ _ _)
  have HNe := Lib.hid (show w.heap.size ≠ sb ∧ w.heap.size + 1 ≠ sb from by have := HB.out.lt; omega)
  have HT2 := Lib.hid (show Turn (fun k => k = sb) w ((w.alloc (.cells cs 88)).alloc (.cells cs 88)) from ((Turn.refl (fun k => k = sb) w).alloc _).alloc _)
  obtain ⟨w2, hw2⟩ : ∃ w2, (w.alloc (.cells cs 88)).alloc (.cells cs 88) = w2 := ⟨_, rfl⟩
  have HW2 := Lib.hid hw2
  rw [hw2] at HB2 HG1 HG2 HT2
  have HFin := Lib.hid (fun (x y : Value) => reset_fin HB2.out HG1.out HG2.out HT2.out HNe.out.1 HNe.out.2 x y)
  rw [← HW2.out] at HFin HB2
  clear hw2 HW2 HG1 HG2 HT2
  have b0 := HB2.out.cell 0
  have b1 := HB2.out.cell 1
  have b2 := HB2.out.cell 2
  have b3 := HB2.out.cell 3
  have b4 := HB2.out.cell 4
  have f0 := HB2.out.frozen 0
  have f1 := HB2.out.frozen 1
  have f2 := HB2.out.frozen 2
  have f3 := HB2.out.frozen 3
  have f4 := HB2.out.frozen 4
  simp only [List.getElem?_toArray, List.getElem?_cons_zero, List.getElem?_cons_succ] at b0 b1 b2 b3 b4
  clear hb hcs h1 h4 hn
  go_enter Try.func22, Try.ntmps22
  go_wp2_with fail
  refine (HN.out _).mono ?_
  rintro e w1 ⟨rfl, rfl⟩
  go_wp2_with fail
  go_region_law (fail)
  all_goals go_wp2
  all_goals go_end0
  all_goals first
    | exact ⟨rfl, w1.heap.size, w1.heap.size + 1, (HFin.out _ _).1, (HFin.out _ _).2.2.1, (HFin.out _ _).2.2.2, by omega, by omega, by omega, (HFin.out _ _).2.1⟩
    | exact ⟨rfl, w1.heap.size + 1, w1.heap.size, (HFin.out _ _).1, (HFin.out _ _).2.2.2, (HFin.out _ _).2.2.1, by omega, by omega, by omega, (HFin.out _ _).2.1⟩
theorem row_ne {g1 g2 n : Nat} (h : g1 ≠ g2) : (Value.slice (some ⟨g1, 0, none⟩) n n).ownBlock ≠ (Value.slice (some ⟨g2, 0, none⟩) n n).ownBlock := fun e => h (by injection e)
/-- A slot with nothing in it, of its cells. -/
theorem sl_made {w : World} {Z : Nat → Prop} {sb g1 g2 n : Nat} {f : Int} (h1 : 1 ≤ f) (h4 : f ≤ 4) (hn : (n : Int) = 3 * f + 1) (hb : Blk w sb 67 #[.int .i64 f, .bool false, .slice none 0 0, .slice (some ⟨g1, 0, none⟩) n n, .slice (some ⟨g2, 0, none⟩) n n])
    (k1 : Blk w g1 88 (veCells (List.replicate n blankE)).toArray) (k2 : Blk w g2 88 (veCells (List.replicate n blankE)).toArray) (hne : g1 ≠ g2) : Sl w Z sb (.slice (some ⟨g1, 0, none⟩) n n) (.slice (some ⟨g2, 0, none⟩) n n) f (Sx.new n) :=
  ⟨h1, h4, by show ((List.replicate n offV).length : Int) = _; rw [List.length_replicate]; exact hn, by show ((List.replicate n offV).length : Int) = _; rw [List.length_replicate]; exact hn, row_ne hne,
    _, _, _, hb, Bat.nil _ _, row_made w Z (by omega) g1 k1, row_made w Z (by omega) g2 k2⟩
theorem sreset_any {w : World} {Z : Nat → Prop} {sb n : Nat} {v1 v2 : Value} {f : Int} {s : Sx} (h : Sl w Z sb v1 v2 f s) (hn : s.P.length = n) : Calls Try.prog 22 #[.pointer (some ⟨sb, 0, none⟩)] w fun e w' => e = .returned (.tuple #[]) ∧ SlPost w Z sb v1 v2 f (Sx.new n) w' := by
  obtain ⟨cv, M1, M2, k1, _, _, _⟩ := h.mem
  have hn2 : (n : Int) = 3 * f + 1 := by rw [← hn]; exact h.n1
  refine (sreset_cells h.f1 h.f4 hn2 k1).mono ?_
  rintro e w' ⟨rfl, g1, g2, a1, a2, a3, a4, a5, a6, a7⟩
  refine ⟨rfl, _, _, sl_made h.f1 h.f4 hn2 a1 a2 a3 a4, fun g hg => ?_, a7.mono (fun _ _ hk => Or.inl hk)⟩
  rcases hg with hg | hg | hg
  · exact Or.inl (Or.inl hg)
  · have : g1 = g := by injection hg
    exact Or.inr (this ▸ a5)
  · have : g2 = g := by injection hg
    exact Or.inr (this ▸ a6)
set_option maxHeartbeats 400000 in
theorem slnew_any {f : Int} {n : Nat} (h1 : 1 ≤ f) (h4 : f ≤ 4) (hn : (n : Int) = 3 * f + 1) (w : World) : Calls Try.prog 6 #[.int .i64 f] w fun e w' => ∃ sb v1 v2, e = .returned (.tuple #[.pointer (some ⟨sb, 0, none⟩), .int .i64 0]) ∧ Sl w' (fun k => w.heap.size ≤ k) sb v1 v2 f (Sx.new n) ∧ (∀ k, SZ sb v1 v2 k → w.heap.size ≤ k) ∧ Below w.heap.size w w' := by
  have HB := Lib.hid (Blk.new w 67 #[.int .i64 f, .bool false, .slice none 0 0, .slice none 0 0, .slice none 0 0])
  have HL := Lib.hid (show Below w.heap.size w (w.alloc (.cells #[.int .i64 f, .bool false, .slice none 0 0, .slice none 0 0, .slice none 0 0] 67)) from (Below.refl _ _).alloc (Nat.le_refl _) _)
  have HR := Lib.hid (sreset_cells h1 h4 hn HB.out)
  have HM := Lib.hid (fun (w' : World) (g1 g2 : Nat) (a : _) (b : _) (c : _) (d : _) => sl_made (w := w') (Z := fun k => w.heap.size ≤ k) (sb := w.heap.size) (g1 := g1) (g2 := g2) h1 h4 hn a b c d)
  have a1 : decide (f < 1) = false := decide_eq_false (by omega)
  have a2 : decide (4 < f) = false := decide_eq_false (by omega)
  clear h1 h4 hn
  go_enter Try.func6, Try.ntmps6
  go_wp2_with fail
  refine HR.out.mono ?_
  rintro e w' ⟨rfl, g1, g2, b1, b2, b3, b4, b5, b6, b7⟩
  have HS := Lib.hid (HM.out w' g1 g2 b1 b2 b3 b4)
  have HT := Lib.hid (HL.out.trans (b7.below HL.out.size (fun k hk e => by omega)))
  have HZ := Lib.hid (show ∀ k, SZ w.heap.size (.slice (some ⟨g1, 0, none⟩) n n) (.slice (some ⟨g2, 0, none⟩) n n) k → w.heap.size ≤ k from fun k hk => by
    have := HL.out.size
    rcases hk with hk | hk | hk
    · omega
    · have : g1 = k := by injection hk
      omega
    · have : g2 = k := by injection hk
      omega)
  clear b1 b2 b3 b4 b5 b6 b7 HR HM
  go_wp2_with fail
  go_ret2
  exact ⟨_, _, _, rfl, HS.out, HZ.out, HT.out⟩
theorem slnew_out {f : Int} (h : ¬ (1 ≤ f ∧ f ≤ 4)) (w : World) : Calls Try.prog 6 #[.int .i64 f] w fun e w' => e = .returned (.tuple #[.pointer none, .int .i64 1]) ∧ w = w' := by
  by_cases b1 : f < 1
  · have a1 : decide (f < 1) = true := decide_eq_true b1
    clear h
    go_enter Try.func6, Try.ntmps6
    go_wp2
    go_ret2
    exact ⟨rfl, rfl⟩
  · have a1 : decide (f < 1) = false := decide_eq_false b1
    have a2 : decide (4 < f) = true := decide_eq_true (by omega)
    clear h
    go_enter Try.func6, Try.ntmps6
    go_wp2
    go_ret2
    exact ⟨rfl, rfl⟩
end Go.Proofs.Ytcebnmhkbhhfiaa
namespace Go.Proofs.Ytcebnmhkbhhfiaa
open Go.RowKit
set_option linter.unusedSimpArgs false

/-- So far: the votes for the batch among the first k. -/
structure Fo (w : World) (L : List Vo) (b : List Rq) (k m : Nat) (u : Value) (wr : World) : Prop where
  own : wr.ownsRow w.heap.size 78 2 u m (voteCells (forL 0 (L.take k) b))
  len : (forL 0 (L.take k) b).length = m
  low : Below w.heap.size w wr
section
variable {w wr wz : World} {L : List Vo} {b : List Rq} {k m : Nat} {u u2 : Value} {x : Vo}
theorem Fo.below (h : Fo w L b k m u wr) (hb : Below wr.heap.size wr wz) : Fo w L b k m u wz := ⟨below_own h.own hb (Nat.le_refl _), h.len, h.low.trans (hb.mono h.low.size)⟩
theorem Fo.no (h : Fo w L b k m u wr) (hx : L[k]? = some x) (hn : ¬ (x.ca = true ∧ x.bt = b)) : Fo w L b (k + 1) m u wr := by
  have e : forL 0 (L.take (k + 1)) b = forL 0 (L.take k) b := by rw [forL_next hx, if_neg hn, List.append_nil]
  exact ⟨by rw [e]; exact h.own, by rw [e]; exact h.len, h.low⟩
theorem Fo.yes (h : Fo w L b k m u wr) (hx : L[k]? = some x) (hn : x.ca = true ∧ x.bt = b) (ho : wz.ownsRow w.heap.size 78 2 u2 (m + 1) (voteCells (forL 0 (L.take k) b) ++ voteCells [⟨(k : Int), x.sg⟩])) (hb : Below w.heap.size w wz) : Fo w L b (k + 1) (m + 1) u2 wz := by
  have e : forL 0 (L.take (k + 1)) b = forL 0 (L.take k) b ++ [⟨(k : Int), x.sg⟩] := by rw [forL_next hx, if_pos hn]
  exact ⟨by rw [e, voteCells_app]; exact ho, by rw [e, List.length_append, h.len]; rfl, hb⟩
theorem Fo.le (h : Fo w L b k m u wr) : m ≤ k := by
  have := forL_le (L.take k) 0 b
  rw [h.len, List.length_take] at this
  omega
end
theorem sameL_self' {α : Type} [DecidableEq α] (l : List α) : sameL l l = true := decide_eq_true rfl
def vtsOf (r : Option (List Vt)) : List Vt := r.getD []
set_option maxHeartbeats 4000000 in
theorem sdec_any {w : World} {Z : Nat → Prop} {sb : Nat} {v1 v2 v : Value} {f : Int} {s : Sx} (h : Sl w Z sb v1 v2 f s) {L : List Vo} {M : List Ve} (hr : Row w Z v L M) (hL : L.length ≤ 13) {A : Option Addr} {n c B q : Nat} {b : List Rq} (hb : Has w B A (reqCells b)) (hn : b.length = n) (hq : (q : Int) = 2 * f + 1) :
    Calls Try.prog 69 #[.pointer (some ⟨sb, 0, none⟩), v, .slice A n c] w fun e w' => ∃ u, e = .returned (.tuple #[u, .bool (decS L b q).isSome]) ∧ w'.ownsRow w.heap.size 78 2 u (vtsOf (decS L b q)).length (voteCells (vtsOf (decS L b q))) ∧ Below w.heap.size w w' := by
  obtain ⟨i0, hi0, hx0, hx1, hx2⟩ := info_parts info_vote
  obtain ⟨cv, M1, M2, k1, _, _, _⟩ := h.mem
  have HQ := Lib.hid (fun (w : World) => (show Calls Try.prog 78 #[.int .i64 f] w fun e w' => e = .returned (.int .i64 (q : Int)) ∧ w = w' from by
    have := bquorum_any f w
    rwa [quorumS_in h.f1 h.f4, ← hq] at this))
  have HK := Lib.hid k1
  have HR := Lib.hid hr
  have HH := Lib.hid hb.tight
  have HN := Lib.hid hn
  have HL := Lib.hid hL
  have q0 : 0 < q := by have := h.f1; omega
  obtain ⟨A0, c0, rfl, -, -⟩ := own_slice hr.own
  obtain ⟨n0, hn0⟩ : ∃ y, L.length = y := ⟨_, rfl⟩
  have HN0 := Lib.hid hn0
  rw [hn0] at hL ⊢
  clear h hr hb hn hq k1 hn0
  go_enter Try.func69, Try.ntmps69
  go_wp2_with fail
  go_loopw [8, 13] (fun y x wr => ∃ (k m : Nat), x = .int .i64 k ∧ k ≤ n0 ∧ m < q ∧ Hid (Fo w L b k m y wr)) (fun _ x _ => n0 - (intOf x).toNat)
  case atStart => exact ⟨0, 0, rfl, Nat.zero_le _, q0, ⟨World.ownsRow_nil _ _ _ _, rfl, Below.refl _ _⟩⟩
  case round =>
    obtain ⟨k, m, rfl, hk, hmq, HF⟩ := hrel
    obtain ⟨Au, cu, rfl, -, -⟩ := own_slice HF.out.own
    by_cases hlt : k < n0
    · have hkL : k < L.length := by rw [HN0.out]; exact hlt
      obtain ⟨g, c', x, hv, hM, hx, d0, d1, d2⟩ := (HR.out.kept (Turn.of_below (Z := fun _ => False) (a := w) (b := wr) HF.out.low) (fun _ _ => id) (fun _ _ _ _ _ => id)).cells hkL
      injection hv with hA0 hn0' hc0
      subst hA0 hc0
      have HX := Lib.hid hx
      have HBt := Lib.hid (HR.out.all x (List.mem_of_getElem? hM))
      have HAl := Lib.hid (fun (a b d : Value) => show Below wr.heap.size wr (wr.alloc (.cells #[a, b, d] 88)) from (Below.refl _ _).alloc (Nat.le_refl _) _)
      cases hca : x.o.ca with
      | false =>
        rw [hca] at d0
        have HF2 := Lib.hid (fun (a b d : Value) => (HF.out.no HX.out (fun e => by rw [hca] at e; cases e.1)).below (HAl.out a b d))
        obtain ⟨nx, hnx⟩ : ∃ y, x.o.bt.length = y := ⟨_, rfl⟩
        rw [hnx] at d2
        clear hM hx hkL hn0' hca hnx HBt HAl
        go_wp2_with fail
        go_roundw
        case rel => exact ⟨k + 1, m, by go_num, by omega, hmq, HF2.out _ _ _⟩
        case measure => simp [intOf]; omega
      | true =>
        rw [hca] at d0
        have HCa := Lib.hid hca
        obtain ⟨sg, hsg⟩ : ∃ y, x.o.sg = y := ⟨_, rfl⟩
        obtain ⟨nx, hnx⟩ : ∃ y, x.o.bt.length = y := ⟨_, rfl⟩
        rw [hsg] at d1
        rw [hnx] at d2
        have HSg := Lib.hid hsg
        have HNx := Lib.hid hnx
        have HB8 := Lib.hid (HAl.out (.bool true) (.int .i64 sg) (.slice x.A nx x.c))
        have HK8 := Lib.hid (Blk.new wr 88 #[.bool true, .int .i64 sg, .slice x.A nx x.c])
        obtain ⟨w8, hw8⟩ : ∃ w8, wr.alloc (.cells #[.bool true, .int .i64 sg, .slice x.A nx x.c] 88) = w8 := ⟨_, rfl⟩
        have HW8 := Lib.hid hw8
        rw [hw8] at HB8 HK8
        have HF8 := Lib.hid (HF.out.below HB8.out)
        have HSame := Lib.hid (show Calls Try.prog 77 #[.slice x.A nx x.c, .slice A n c] w8 fun e w' => e = .returned (.bool (sameL x.o.bt b)) ∧ Below w8.heap.size w8 w' from by
          have hb8 := HBt.out.kept (Turn.of_below (Z := fun _ => False) (a := w) (b := w8) HF8.out.low) (fun _ _ => id)
          have ho := hb8.own
          rw [show x.val = .slice x.A x.o.bt.length x.c from rfl] at ho
          exact rq_same (has_rows ho) HNx.out (by rw [← HNx.out]; exact HBt.out.low) (HH.out.below HF8.out.low (Nat.le_refl _)) HN.out)
        clear hM hx hkL hn0' hca hsg hnx HAl hw8
        have g1 := HK8.out.cell 0
        have g2 := HK8.out.cell 2
        simp only [List.getElem?_toArray, List.getElem?_cons_zero, List.getElem?_cons_succ] at g1 g2
        have HSb := Lib.hid (HK.out.below HF8.out.low HK.out.lt)
        rw [← HW8.out] at HB8 HK8 HF8 HSame g1 g2 HSb
        clear HW8
        obtain ⟨r, hr⟩ : ∃ r, sameL x.o.bt b = r := ⟨_, rfl⟩
        have HR' := Lib.hid hr
        rw [hr] at HSame
        clear hr
        cases r with
        | false =>
          have HF9 := Lib.hid (HF8.out.no HX.out (fun e => by have := HR'.out; rw [e.2, sameL_self'] at this; cases this))
          go_wp2_with fail
          refine HSame.out.mono ?_
          rintro e w9 ⟨rfl, hb9⟩
          have HF10 := Lib.hid (HF9.out.below hb9)
          clear hb9
          go_wp2_with fail
          go_roundw
          case rel => exact ⟨k + 1, m, by go_num, by omega, hmq, HF10⟩
          case measure => simp [intOf]; omega
        | true =>
          have HXb := Lib.hid (And.intro HCa.out (sameL_true.1 HR'.out))
          go_wp2_with fail
          refine HSame.out.mono ?_
          rintro e w9 ⟨rfl, hb9⟩
          have HF9 := Lib.hid (HF8.out.below hb9)
          have hk9 := HK8.out.below hb9 HK8.out.lt
          have hs9 := HSb.out.below hb9 HSb.out.lt
          have e1 := hk9.cell 1
          have s0 := hs9.cell 0
          simp only [List.getElem?_toArray, List.getElem?_cons_zero, List.getElem?_cons_succ] at e1 s0
          have HS9 := Lib.hid hs9
          clear hb9 hk9 hs9 g1 g2 HF8 HSame
          have HBv := Lib.hid (show Below w9.heap.size w9 (w9.alloc (.cells #[.int .i64 (k : Int), .int .i64 sg] 78)) from (Below.refl _ _).alloc (Nat.le_refl _) _)
          have HOv := Lib.hid (below_own HF9.out.own HBv.out (Nat.le_refl _))
          have HNv := Lib.hid (show Has (w9.alloc (.cells #[.int .i64 (k : Int), .int .i64 sg] 78)) (w9.heap.size + 1) (some ⟨w9.heap.size, 0, none⟩) (voteCells [⟨(k : Int), sg⟩]) from Has.fresh w9 #[.int .i64 (k : Int), .int .i64 sg] 78)
          have HOne := Lib.hid (voteCells_one [⟨(k : Int), sg⟩])
          have hme := HF9.out.le
          have HM1 := Lib.hid (show m + 1 ≤ maxLen by unfold maxLen; omega)
          have HM2 := Lib.hid (show (m + 1) * 16 ≤ 140737488355328 by omega)
          have HM3 := Lib.hid (show w.heap.size ≤ (w9.alloc (.cells #[.int .i64 (k : Int), .int .i64 sg] 78)).heap.size from Nat.le_trans HF9.out.low.size HBv.out.size)
          go_wp2_with (at_builtin; refine wpList_apps rfl _ _ 46 rfl w.heap.size 78 i0 _ 2 16 Try.underlying46 hi0 hx0 hx1 hx2 rfl (by decide) _ _ _ rfl HOv.out _ (some ⟨w9.heap.size, 0, none⟩) 1 1 (voteCells [⟨(k : Int), sg⟩]) rfl rfl HNv.out (fun h => nomatch h) HOne.out HM1.out HM2.out HM3.out ?_)
          intro u2 w10 ho hg _
          have HF10 := Lib.hid (HF9.out.yes HX.out HXb.out (by rw [HSg.out]; exact ho) ((HF9.out.low.trans (HBv.out.mono HF9.out.low.size)).grown hg HM3.out (fun k hk => (HOv.out.lt k hk).1)))
          have hs10 : Blk w10 sb _ _ := (HS9.out.alloc _).grown hg (fun e => own_blk_ne HOv.out (HS9.out.alloc _) (by decide) e.symm)
          have s1 := hs10.cell 0
          simp only [List.getElem?_toArray, List.getElem?_cons_zero, List.getElem?_cons_succ] at s1
          obtain ⟨A2, c2, rfl, -, -⟩ := own_slice ho
          clear ho hg hs10 e1 s0 HS9
          by_cases hq1 : m + 1 = q
          · have HE := Lib.hid (show decS L b q = some (forL 0 (L.take (k + 1)) b) from decS_here (by rw [HF10.out.len]; exact hq1))
            have hq2 : ((m : Int) + 1 == (q : Int)) = true := by simp; omega
            go_wp2_with fail
            refine (HQ.out _).mono ?_
            rintro e w11 ⟨rfl, rfl⟩
            go_wp2_with fail
            go_ret2
            refine ⟨.slice A2 q c2, ?_, ?_, HF10.out.low⟩
            · rw [HE.out]; rfl
            · rw [HE.out]
              have := HF10.out.own
              rw [hq1] at this
              show World.ownsRow _ _ _ _ _ (forL 0 (L.take (k + 1)) b).length (voteCells (forL 0 (L.take (k + 1)) b))
              rw [HF10.out.len, hq1]
              exact this
          · have hq2 : ((m : Int) + 1 == (q : Int)) = false := by simp; omega
            go_wp2_with fail
            refine (HQ.out _).mono ?_
            rintro e w11 ⟨rfl, rfl⟩
            go_wp2_with fail
            go_roundw
            case rel => exact ⟨k + 1, m + 1, by go_num, by omega, by omega, HF10⟩
            case measure => simp [intOf]; omega
    · obtain rfl : k = n0 := by omega
      have HE := Lib.hid (show decS L b q = none from decS_end (k := k) (by rw [HF.out.len]; exact hmq) (by rw [HN0.out]; exact Nat.le_refl _))
      go_wp2_with fail
      go_ret2
      refine ⟨.slice none 0 0, ?_, ?_, HF.out.low⟩
      · rw [HE.out]; rfl
      · rw [HE.out]; exact World.ownsRow_nil _ _ _ _
theorem own_base {w : World} {b b' n s : Nat} {e : TypeId} {v : Value} {xs : List Value} (h : w.ownsRow b e s v n xs) (hb : b' ≤ b) : w.ownsRow b' e s v n xs := by
  refine ⟨h.1, ?_⟩
  rcases h.2 with h2 | ⟨a, c, d, e1, e2, e3⟩
  · exact Or.inl h2
  · exact Or.inr ⟨a, c, d, e1, Nat.le_trans hb e2, e3⟩
section
variable {w : World} {Z : Nat → Prop} {sb : Nat} {v1 v2 : Value} {f : Int} {s : Sx}
set_option maxHeartbeats 1000000 in
theorem sprep_any (h : Sl w Z sb v1 v2 f s) {q : Nat} (hq : (q : Int) = 2 * f + 1) :
    Calls Try.prog 24 #[.pointer (some ⟨sb, 0, none⟩)] w fun e w' => ∃ u, e = .returned (.tuple #[u, .bool (s.prep q).isSome]) ∧ w'.ownsRow w.heap.size 78 2 u (vtsOf (s.prep q)).length (voteCells (vtsOf (s.prep q))) ∧ Below w.heap.size w w' := by
  obtain ⟨cv, M1, M2, h1, h2, h3, h4⟩ := h.mem
  cases hc : s.ch with
  | none =>
    have HE := Lib.hid (show s.prep q = none by unfold Sx.prep; rw [hc])
    have c1 := h1.cell 1
    simp only [List.getElem?_toArray, List.getElem?_cons_zero, List.getElem?_cons_succ, hc, Option.isSome_none] at c1
    clear h h1 h2 h3 h4 hc hq
    go_enter Try.func24, Try.ntmps24
    go_wp2_with fail
    go_ret2
    refine ⟨.slice none 0 0, ?_, ?_, Below.refl _ _⟩
    · rw [HE.out]; rfl
    · rw [HE.out]; exact World.ownsRow_nil _ _ _ _
  | some b =>
    have HE := Lib.hid (show s.prep q = decS s.P b q by unfold Sx.prep; rw [hc])
    rw [hc] at h1 h2
    obtain ⟨A, c, rfl, _, hh⟩ := h2.has
    obtain ⟨A1, d1, rfl, -, -⟩ := own_slice h3.own
    have HD := Lib.hid (sdec_any (h.drewN 1) (h3.kept ((Turn.refl (fun _ => False) w).drewN 1) (fun _ _ => id) (fun _ _ _ _ _ => id)) (by have := h.n1; have := h.f4; omega) (c := c) hh.drew rfl hq)
    obtain ⟨n, hn⟩ : ∃ y, ((some b).getD []).length = y := ⟨_, rfl⟩
    obtain ⟨n1, hn1⟩ : ∃ y, s.P.length = y := ⟨_, rfl⟩
    have hD : Calls Try.prog 69 #[.pointer (some ⟨sb, 0, none⟩), .slice A1 n1 d1, .slice A n c] w.drew fun e w' => ∃ u, e = .returned (.tuple #[u, .bool (decS s.P b q).isSome]) ∧ w'.ownsRow w.heap.size 78 2 u (vtsOf (decS s.P b q)).length (voteCells (vtsOf (decS s.P b q))) ∧ Below w.heap.size w w' := by
      rw [← hn, ← hn1]
      exact HD.out.mono fun e w' ⟨u, a1, a2, a3⟩ => ⟨u, a1, a2, Below.trans (⟨rfl, rfl, rfl, Nat.le_refl _, fun _ _ => rfl⟩ : Below w.heap.size w w.drew) a3⟩
    have HD2 := Lib.hid hD
    rw [hn, hn1] at h1
    have HK := Lib.hid h1
    have c1 := h1.cell 1
    simp only [List.getElem?_toArray, List.getElem?_cons_zero, List.getElem?_cons_succ, Option.isSome_some] at c1
    have c2 : w.drew.cell? ⟨sb, 2, none⟩ = some (.slice A n c) := HK.out.cell 2
    have c3 : w.drew.cell? ⟨sb, 3, none⟩ = some (.slice A1 n1 d1) := HK.out.cell 3
    obtain ⟨r, hr⟩ : ∃ y, decS s.P b q = y := ⟨_, rfl⟩
    rw [hr] at HD2 HE
    obtain ⟨ok, hok⟩ : ∃ y, r.isSome = y := ⟨_, rfl⟩
    have HOk := Lib.hid hok
    rw [hok] at HD2
    clear h h1 h2 h3 h4 hc hq hh hn hn1 hr hok HD hD
    go_enter Try.func24, Try.ntmps24
    go_wp2_with fail
    go_region_held3 (fun w' => w'.cell? ⟨sb, 2, none⟩ = some (.slice A n c) ∧ w'.cell? ⟨sb, 3, none⟩ = some (.slice A1 n1 d1)) (first | exact ⟨c2, c3⟩ | exact hq2 | go_keep)
      ((go_at_call 69; refine HD2.out.mono ?_; rintro e w2 ⟨v', rfl, ho, hb⟩; have hbk := HK.out.below hb HK.out.lt; have hq2 : w2.cell? ⟨sb, 2, none⟩ = some (.slice A n c) ∧ w2.cell? ⟨sb, 3, none⟩ = some (.slice A1 n1 d1) := ⟨hbk.cell 2, hbk.cell 3⟩; obtain ⟨A2, d2, rfl, -, -⟩ := own_slice ho))
    have HO := Lib.hid ho
    have HB := Lib.hid hb
    clear ho hb hbk hq2 c1 c2 c3
    go_wp2_with fail
    go_ret2
    exact ⟨_, by rw [HE.out, HOk.out]; rfl, by rw [HE.out]; exact HO.out, HB.out⟩
end
end Go.Proofs.Ytcebnmhkbhhfiaa
namespace Go.Proofs.Ytcebnmhkbhhfiaa
open Go.RowKit
set_option linter.unusedSimpArgs false

def batOf (r : Option (List Rq × List Vt)) : List Rq := (r.map Prod.fst).getD []
def votOf (r : Option (List Rq × List Vt)) : List Vt := (r.map Prod.snd).getD []
section
variable {w : World} {Z : Nat → Prop} {sb : Nat} {v1 v2 : Value} {f : Int} {s : Sx}
set_option maxHeartbeats 4000000 in
theorem scom_any (h : Sl w Z sb v1 v2 f s) {q : Nat} (hq : (q : Int) = 2 * f + 1) :
    Calls Try.prog 37 #[.pointer (some ⟨sb, 0, none⟩)] w fun e w' => ∃ u1 u2, e = .returned (.tuple #[u1, u2, .bool (s.com q).isSome]) ∧
      w'.ownsRow w.heap.size 71 6 u1 (batOf (s.com q)).length (reqCells (batOf (s.com q))) ∧ w'.ownsRow w.heap.size 78 2 u2 (votOf (s.com q)).length (voteCells (votOf (s.com q))) ∧ Below w.heap.size w w' := by
  have HSl := Lib.hid h
  obtain ⟨cv, M1, M2, h1, h2, h3, h4⟩ := h.mem
  have HK := Lib.hid h1
  have HR := Lib.hid h4
  have HQ := Lib.hid hq
  have HL13 := Lib.hid (show s.C.length ≤ 13 by have := h.n2; have := h.f4; omega)
  obtain ⟨A0, c0, rfl, -, -⟩ := own_slice h4.own
  obtain ⟨L, hL⟩ : ∃ y, s.C = y := ⟨_, rfl⟩
  have HE := Lib.hid (show s.com q = comS q L L by unfold Sx.com; rw [hL])
  rw [hL] at HR HL13 HK HSl h1
  obtain ⟨n0, hn0⟩ : ∃ y, L.length = y := ⟨_, rfl⟩
  have HN0 := Lib.hid hn0
  rw [hn0] at h1
  have hn13 : n0 ≤ 13 := by rw [← hn0]; exact HL13.out
  have k4 := h1.cell 4
  simp only [List.getElem?_toArray, List.getElem?_cons_zero, List.getElem?_cons_succ] at k4
  clear h h1 h2 h3 h4 hq hL hn0
  go_enter Try.func37, Try.ntmps37
  go_wp2_with fail
  go_loopw [14] (fun x wr => ∃ (k : Nat), x = .int .i64 k ∧ k ≤ n0 ∧ Hid (∀ y ∈ L.take k, decS L y.bt q = none) ∧ Hid (Below w.heap.size w wr)) (fun x _ => n0 - (intOf x).toNat)
  case atStart => exact ⟨0, rfl, Nat.zero_le _, (fun y hy => by simp at hy), Below.refl _ _⟩
  case round =>
    obtain ⟨k, rfl, hk, HNo, HB⟩ := hrel
    by_cases hlt : k < n0
    · have hkL : k < L.length := by rw [HN0.out]; exact hlt
      obtain ⟨g, c', x, hv, hM, hx, d0, d1, d2⟩ := (HR.out.kept (Turn.of_below (Z := fun _ => False) (a := w) (b := wr) HB.out) (fun _ _ => id) (fun _ _ _ _ _ => id)).cells hkL
      injection hv with hA0 hn0' hc0
      subst hA0 hc0
      have HX := Lib.hid hx
      have HBt := Lib.hid (HR.out.all x (List.mem_of_getElem? hM))
      obtain ⟨ca, hca⟩ : ∃ y, x.o.ca = y := ⟨_, rfl⟩
      obtain ⟨sg, hsg⟩ : ∃ y, x.o.sg = y := ⟨_, rfl⟩
      obtain ⟨nx, hnx⟩ : ∃ y, x.o.bt.length = y := ⟨_, rfl⟩
      rw [hca] at d0
      rw [hsg] at d1
      rw [hnx] at d2
      have HNx := Lib.hid hnx
      have HB8 := Lib.hid (show Below wr.heap.size wr (wr.alloc (.cells #[.bool ca, .int .i64 sg, .slice x.A nx x.c] 88)) from (Below.refl _ _).alloc (Nat.le_refl _) _)
      have HK8 := Lib.hid (Blk.new wr 88 #[.bool ca, .int .i64 sg, .slice x.A nx x.c])
      obtain ⟨w8, hw8⟩ : ∃ w8, wr.alloc (.cells #[.bool ca, .int .i64 sg, .slice x.A nx x.c] 88) = w8 := ⟨_, rfl⟩
      have HW8 := Lib.hid hw8
      rw [hw8] at HB8 HK8
      have HBw8 := Lib.hid (HB.out.trans (HB8.out.mono HB.out.size))
      have HSb := Lib.hid (HK.out.below HBw8.out HK.out.lt)
      have HBat8 := Lib.hid (HBt.out.kept (Turn.of_below (Z := fun _ => False) (a := w) (b := w8) HBw8.out) (fun _ _ => id))
      have hD : Calls Try.prog 69 #[.pointer (some ⟨sb, 0, none⟩), .slice (some ⟨g, 0, none⟩) n0 c0, .slice x.A nx x.c] w8.drew fun e w' => ∃ u, e = .returned (.tuple #[u, .bool (decS L x.o.bt q).isSome]) ∧ w'.ownsRow w.heap.size 78 2 u (vtsOf (decS L x.o.bt q)).length (voteCells (vtsOf (decS L x.o.bt q))) ∧ Below w8.heap.size w8 w' := by
        have ho := HBat8.out.own
        rw [show x.val = .slice x.A x.o.bt.length x.c from rfl] at ho
        have := sdec_any ((HSl.out.below HBw8.out).drewN 1) ((HR.out.kept (Turn.of_below (Z := fun _ => False) (a := w) (b := w8) HBw8.out) (fun _ _ => id) (fun _ _ _ _ _ => id)).kept ((Turn.refl (fun _ => False) w8).drewN 1) (fun _ _ => id) (fun _ _ _ _ _ => id)) HL13.out (has_rows ho).drew rfl HQ.out (c := x.c)
        rw [HNx.out, HN0.out] at this
        exact this.mono fun e w' ⟨u, a1, a2, a3⟩ => ⟨u, a1, own_base a2 HBw8.out.size, Below.trans (⟨rfl, rfl, rfl, Nat.le_refl _, fun _ _ => rfl⟩ : Below w8.heap.size w8 w8.drew) a3⟩
      have HD := Lib.hid hD
      obtain ⟨r, hr⟩ : ∃ y, decS L x.o.bt q = y := ⟨_, rfl⟩
      have HDr := Lib.hid hr
      rw [hr] at HD
      clear hM hx hkL hn0' hca hsg hnx hw8 hD hr
      rw [← HW8.out] at HB8 HK8 HBw8 HSb HBat8 HD
      clear HW8
      have g2 := HK8.out.cell 2
      have s4 := HSb.out.cell 4
      have g2' : (wr.alloc (.cells #[.bool ca, .int .i64 sg, .slice x.A nx x.c] 88)).drew.cell? ⟨wr.heap.size, 2, none⟩ = some (.slice x.A nx x.c) := g2
      have s4' : (wr.alloc (.cells #[.bool ca, .int .i64 sg, .slice x.A nx x.c] 88)).drew.cell? ⟨sb, 4, none⟩ = some (.slice (some ⟨g, 0, none⟩) n0 c0) := by rw [HN0.out] at s4; exact s4
      clear g2 s4
      cases r with
      | none =>
        have HNo2 := Lib.hid (show ∀ y ∈ L.take (k + 1), decS L y.bt q = none from fun y hy => by
          rw [List.take_add_one, HX.out] at hy
          rcases List.mem_append.1 hy with hy | hy
          · exact HNo.out y hy
          · obtain rfl : y = x.o := by simpa using hy
            exact HDr.out)
        go_wp2_with fail
        go_region_held3 (fun w' => w'.cell? ⟨wr.heap.size, 2, none⟩ = some (.slice x.A nx x.c) ∧ w'.cell? ⟨sb, 4, none⟩ = some (.slice (some ⟨g, 0, none⟩) n0 c0)) (first | exact ⟨g2', s4'⟩ | exact hq2 | go_keep)
          ((go_at_call 69; refine HD.out.mono ?_; rintro e w2 ⟨v', rfl, ho, hb⟩; have hbk := HK8.out.below hb HK8.out.lt; have hsk := HSb.out.below hb HSb.out.lt; have hq2 : w2.cell? ⟨wr.heap.size, 2, none⟩ = some (.slice x.A nx x.c) ∧ w2.cell? ⟨sb, 4, none⟩ = some (.slice (some ⟨g, 0, none⟩) n0 c0) := ⟨hbk.cell 2, by have := hsk.cell 4; rw [HN0.out] at this; exact this⟩; obtain ⟨A2, d2, rfl, -, -⟩ := own_slice ho))
        have HB2 := Lib.hid (HBw8.out.trans (hb.mono HBw8.out.size))
        clear ho hb hbk hsk hq2 g2' s4'
        go_wp2_with fail
        go_roundw
        case rel => exact ⟨k + 1, by go_num, by omega, HNo2, HB2⟩
        case measure => simp [intOf]; omega
      | some vs =>
        have HCom := Lib.hid (show comS q L L = some (x.o.bt, vs) from comS_take HX.out HNo.out HDr.out)
        go_wp2_with fail
        go_region_held3 (fun w' => w'.cell? ⟨wr.heap.size, 2, none⟩ = some (.slice x.A nx x.c) ∧ w'.cell? ⟨sb, 4, none⟩ = some (.slice (some ⟨g, 0, none⟩) n0 c0)) (first | exact ⟨g2', s4'⟩ | exact hq2 | go_keep)
          ((go_at_call 69; refine HD.out.mono ?_; rintro e w2 ⟨v', rfl, ho, hb⟩; have hbk := HK8.out.below hb HK8.out.lt; have hsk := HSb.out.below hb HSb.out.lt; have hq2 : w2.cell? ⟨wr.heap.size, 2, none⟩ = some (.slice x.A nx x.c) ∧ w2.cell? ⟨sb, 4, none⟩ = some (.slice (some ⟨g, 0, none⟩) n0 c0) := ⟨hbk.cell 2, by have := hsk.cell 4; rw [HN0.out] at this; exact this⟩; obtain ⟨A2, d2, rfl, -, -⟩ := own_slice ho))
        have hq3 := hq2.1
        have HO := Lib.hid ho
        have HB2 := Lib.hid (HBw8.out.trans (hb.mono HBw8.out.size))
        have HBat2 := Lib.hid (HBat8.out.kept (Turn.of_below (Z := fun _ => False) hb) (fun _ _ => id))
        have HCl := Lib.hid (show Calls Try.prog 68 #[.slice x.A nx x.c] w2 fun e w' => ∃ v, e = .returned v ∧ w'.ownsRow w2.heap.size 71 6 v nx (reqCells x.o.bt) ∧ Below w2.heap.size w2 w' from by
          have ho := HBat2.out.own
          rw [show x.val = .slice x.A x.o.bt.length x.c from rfl] at ho
          exact mq_clone (has_rows ho) HNx.out (by rw [← HNx.out]; exact HBat2.out.low))
        clear ho hb hbk hsk hq2 g2' s4'
        go_wp2_with fail
        refine HCl.out.mono ?_
        rintro e w3 ⟨u, rfl, hou, hb3⟩
        obtain ⟨A3, d3, rfl, -, -⟩ := own_slice hou
        have HOu := Lib.hid (own_base hou HB2.out.size)
        have HO3 := Lib.hid (below_own HO.out hb3 (Nat.le_refl _))
        have HB3 := Lib.hid (HB2.out.trans (hb3.mono HB2.out.size))
        clear hou hb3 hq3
        go_wp2_with fail
        go_ret3
        refine ⟨.slice A3 nx d3, .slice A2 (vtsOf (some vs)).length d2, ?_, ?_, ?_, HB3.out⟩
        · rw [HE.out, HCom.out]; rfl
        · rw [HE.out, HCom.out]
          show World.ownsRow _ _ _ _ _ x.o.bt.length (reqCells x.o.bt)
          rw [HNx.out]
          exact HOu.out
        · rw [HE.out, HCom.out]; exact HO3.out
    · obtain rfl : k = n0 := by omega
      have HCom := Lib.hid (show comS q L L = none from comS_end HNo.out (by rw [HN0.out]; exact Nat.le_refl _))
      go_wp2_with fail
      go_ret3
      refine ⟨.slice none 0 0, .slice none 0 0, ?_, ?_, ?_, HB.out⟩
      · rw [HE.out, HCom.out]; rfl
      · rw [HE.out, HCom.out]; exact World.ownsRow_nil _ _ _ _
      · rw [HE.out, HCom.out]; exact World.ownsRow_nil _ _ _ _
set_option maxHeartbeats 400000 in
theorem ve_clone {w : World} {v : Value} {n : Nat} {M : List Ve} (h : w.ownsRow 0 88 3 v n (veCells M)) (hm : n ≤ 16) :
    Calls Try.prog 31 #[v] w fun e w' => ∃ v', e = .returned v' ∧ w'.ownsRow w.heap.size 88 3 v' n (veCells M) ∧ Below w.heap.size w w' := by
  obtain ⟨A, c, rfl, -, -⟩ := own_slice h
  have h1 := has_rows h
  have hl : (veCells M).length = n * 3 := h.1
  cases A with
  | none =>
    have h0 : n = 0 ∧ c = 0 := by
      rcases h.2 with ⟨h2, h3⟩ | ⟨g, cap, cur, hv, _⟩
      · injection h2 with _ _ a
        exact ⟨h3, a⟩
      · injection hv with a
        cases a
    obtain ⟨rfl, rfl⟩ := h0
    have hL : veCells M = [] := List.eq_nil_of_length_eq_zero (by omega)
    rw [hL]
    have hq := fun (w : World) => Lib.run_eql_slice_nil w 65 88 none 0 0 0 0 Try.underlying65
    clear h h1 hl
    go_enter Try.func31, Try.ntmps31
    go_wp2
    go_ret
    exact ⟨_, rfl, World.ownsRow_nil _ _ _ _, Below.refl _ _⟩
  | some ad =>
    have hq := fun (w : World) => Lib.run_eql_slice_nil w 65 88 (some ad) n c 0 0 Try.underlying65
    obtain ⟨i0, hi0, hx0, hx1, hx2⟩ := info_parts info_ve
    have HO := Lib.hid (World.ownsRow_made (e := 88) (size := 3) w #[] 0 (Nat.le_refl _) (by unfold maxLen; omega) (by simp))
    have HB := Lib.hid (show Below w.heap.size w (w.alloc (.cells #[] 88)) from (Below.refl _ _).alloc (Nat.le_refl _) _)
    have HH := Lib.hid (h1.below HB.out (Nat.le_refl _))
    have H8 := Lib.hid (veCells_one M)
    have HLn := Lib.hid hl
    have hm1 := Lib.hid (show 0 + n ≤ maxLen by unfold maxLen; omega)
    have hm2 := Lib.hid (show (0 + n) * 40 ≤ 140737488355328 by omega)
    clear h h1 hl hm
    go_enter Try.func31, Try.ntmps31
    go_wp2_with (at_builtin; refine wpList_apps rfl _ _ 65 rfl w.heap.size 88 i0 _ 3 40 Try.underlying65 hi0 hx0 hx1 hx2 rfl (by decide) _ 0 [] rfl HO.out _ (some ad) n c (veCells M) rfl HLn.out HH.out (fun e => by cases e) H8.out hm1.out hm2.out HB.out.size ?_)
    intro v w1 ho hg _
    have HR := Lib.hid ho
    have HG := Lib.hid (HB.out.grown hg HB.out.size (fun k hk => by cases hk; exact Nat.le_refl _))
    clear ho hg
    go_wp2
    go_ret
    exact ⟨v, rfl, by simpa using HR.out, HG.out⟩
theorem Row.moved {w w' : World} {Z : Nat → Prop} {v v' : Value} {L : List Vo} {M : List Ve} (h : Row w Z v L M) (hb : Below w.heap.size w w') (ho : w'.ownsRow 0 88 3 v' L.length (veCells M)) : Row w' Z v' L M :=
  ⟨h.is, ho, fun x hx => (h.all x hx).kept (Turn.of_below (Z := fun _ => False) hb) (fun _ _ => id)⟩
set_option maxHeartbeats 2000000 in
/-- Clone: another slot in new blocks, with the same batches. -/
theorem sclone_any (h : Sl w Z sb v1 v2 f s) : Calls Try.prog 9 #[.pointer (some ⟨sb, 0, none⟩)] w fun e w' => ∃ db u1 u2, e = .returned (.pointer (some ⟨db, 0, none⟩)) ∧ Sl w' Z db u1 u2 f s ∧ (∀ k, SZ db u1 u2 k → w.heap.size ≤ k) ∧ Below w.heap.size w w' := by
  have HSl := Lib.hid h
  obtain ⟨cv, M1, M2, h1, h2, h3, h4⟩ := h.mem
  have m1 : s.P.length ≤ 16 := by have := h.n1; have := h.f4; omega
  have m2 : s.C.length ≤ 16 := by have := h.n2; have := h.f4; omega
  have HC1 := Lib.hid (fun (w2 : World) (hb : Below w.heap.size w w2) => ve_clone (below_own h3.own hb (Nat.le_refl _)) m1)
  have HC2 := Lib.hid (fun (w2 : World) (hb : Below w.heap.size w w2) => ve_clone (below_own h4.own hb (Nat.le_refl _)) m2)
  have HMem := Lib.hid (And.intro h2 (And.intro h3 h4))
  obtain ⟨A, c, rfl, -, -⟩ := own_slice h2.own
  obtain ⟨A1, d1, rfl, -, -⟩ := own_slice h3.own
  obtain ⟨A2, d2, rfl, -, -⟩ := own_slice h4.own
  obtain ⟨n, hn⟩ : ∃ y, (s.ch.getD []).length = y := ⟨_, rfl⟩
  obtain ⟨n1, hn1⟩ : ∃ y, s.P.length = y := ⟨_, rfl⟩
  obtain ⟨n2, hn2⟩ : ∃ y, s.C.length = y := ⟨_, rfl⟩
  obtain ⟨b0, hb0⟩ : ∃ y, s.ch.isSome = y := ⟨_, rfl⟩
  have HN := Lib.hid (And.intro hn (And.intro hn1 (And.intro hn2 hb0)))
  rw [hn, hn1, hn2, hb0] at h1
  rw [hn1] at HC1
  rw [hn2] at HC2
  have HK := Lib.hid h1
  have HD0 := Lib.hid (show Below w.heap.size w w.drew from ⟨rfl, rfl, rfl, Nat.le_refl _, fun _ _ => rfl⟩)
  have HCells := Lib.hid (fun (w2 : World) (hb : Below w.heap.size w w2) => show w2.cell? ⟨sb, 0, none⟩ = some (.int .i64 f) ∧ w2.cell? ⟨sb, 1, none⟩ = some (.bool b0) ∧ w2.cell? ⟨sb, 2, none⟩ = some (.slice A n c) ∧ w2.cell? ⟨sb, 3, none⟩ = some (.slice A1 n1 d1) ∧ w2.cell? ⟨sb, 4, none⟩ = some (.slice A2 n2 d2) from
    have k := HK.out.below hb HK.out.lt
    ⟨k.cell 0, k.cell 1, k.cell 2, k.cell 3, k.cell 4⟩)
  have hq1 := HCells.out _ HD0.out
  clear h h1 h2 h3 h4 hn hn1 hn2 hb0 m1 m2
  go_enter Try.func9, Try.ntmps9
  go_wp2_with fail
  go_region_held3 (fun w2 => w2.cell? ⟨sb, 0, none⟩ = some (.int .i64 f) ∧ w2.cell? ⟨sb, 1, none⟩ = some (.bool b0) ∧ w2.cell? ⟨sb, 2, none⟩ = some (.slice A n c) ∧ w2.cell? ⟨sb, 3, none⟩ = some (.slice A1 n1 d1) ∧ w2.cell? ⟨sb, 4, none⟩ = some (.slice A2 n2 d2)) (first | exact hq1 | exact hq2 | exact hq3 | go_keep)
    (first
      | (go_at_call 31; with_reducible refine (HC1.out _ HD0.out).mono ?_; rintro e w2 ⟨v', rfl, ho, hb⟩; have hb2 := HD0.out.trans (hb.mono HD0.out.size); have hq2 := HCells.out _ hb2; obtain ⟨A3, d3, rfl, -, -⟩ := own_slice ho)
      | (go_at_call 31; with_reducible refine (HC2.out _ hb2).mono ?_; rintro e w3 ⟨v', rfl, ho3, hb3⟩; have hb4 := hb2.trans (hb3.mono hb2.size); have hq3 := HCells.out _ hb4; obtain ⟨A4, d4, rfl, -, -⟩ := own_slice ho3))
  have HB4 := Lib.hid hb4
  have HO1 := Lib.hid (below_own ho hb3 (Nat.le_refl _))
  have HO2 := Lib.hid ho3
  have HL2 := Lib.hid hb2.size
  have HL3 := Lib.hid (And.intro (ho.lt) (ho3.lt))
  clear ho ho3 hb hb2 hb3 hb4 hq1 hq2 hq3
  go_wp2_with fail
  go_ret
  have hN := HN.out
  have hal : Below w3.heap.size w3 (w3.alloc (.cells #[.int .i64 f, .bool b0, .slice A n c, .slice A3 n1 d3, .slice A4 n2 d4] 67)) := (Below.refl _ _).alloc (Nat.le_refl _) _
  have hall := HB4.out.trans (hal.mono HB4.out.size)
  have hmem := HMem.out
  rw [hN.1] at hmem
  refine ⟨w3.heap.size, .slice A3 n1 d3, .slice A4 n2 d4, rfl, ⟨HSl.out.f1, HSl.out.f4, HSl.out.n1, HSl.out.n2, ?_, .slice A n c, M1, M2, ?_, ?_, hmem.2.1.moved hall ?_, hmem.2.2.moved hall ?_⟩, fun k hk => ?_, hall⟩
  · intro e
    cases hA : (Value.slice A3 n1 d3).ownBlock with
    | none =>
      have h1 := HSl.out.n1
      have h2 := HSl.out.f1
      obtain ⟨g, cap, hv, _⟩ := HO1.out.form (by omega)
      rw [hv] at hA
      cases hA
    | some g =>
      have x1 := (HL3.out.1 g hA).2
      have x2 := (HL3.out.2 g (by rw [← e]; exact hA)).1
      omega
  · rw [hN.2.2.2]
    exact Blk.new w3 _ _
  · have h2 : Bat w Z (.slice A n c) (s.ch.getD []) := by
      have := hmem.1
      exact this
    exact h2.kept (Turn.of_below (Z := fun _ => False) hall) (fun _ _ => id)
  · rw [hN.2.1]
    exact own_to0 (below_own HO1.out hal (Nat.le_refl _))
  · rw [hN.2.2.1]
    exact own_to0 (below_own HO2.out hal (Nat.le_refl _))
  · have := HB4.out.size
    have := HL2.out
    rcases hk with hk | hk | hk
    · omega
    · have := (HL3.out.1 k hk).1
      have h0 : w.drew.heap.size = w.heap.size := rfl
      omega
    · have := (HL3.out.2 k hk).1
      omega
end
end Go.Proofs.Ytcebnmhkbhhfiaa
namespace Go.Proofs.Ytcebnmhkbhhfiaa
open Go.RowKit
set_option linter.unusedSimpArgs false

/-- A slot that was made since w. -/
structure Rs (w : World) (sb : Nat) (v1 v2 : Value) (f : Int) (s : Sx) (wr : World) : Prop where
  sl : Sl wr (fun _ => True) sb v1 v2 f s
  zn : ∀ k, SZ sb v1 v2 k → w.heap.size ≤ k
  low : Below w.heap.size w wr
section
variable {w wr wz : World} {sb : Nat} {v1 v2 : Value} {f : Int} {s s' : Sx}
theorem Rs.below (h : Rs w sb v1 v2 f s wr) (hb : Below wr.heap.size wr wz) : Rs w sb v1 v2 f s wz := ⟨h.sl.below hb, h.zn, h.low.trans (hb.mono h.low.size)⟩
theorem Rs.drewN (h : Rs w sb v1 v2 f s wr) (m : Nat) : Rs w sb v1 v2 f s (wr.drewN m) := h.below ⟨rfl, rfl, rfl, Nat.le_refl _, fun _ _ => rfl⟩
theorem Rs.has (h : Rs w sb v1 v2 f s wr) {A : Option Addr} {xs : List Value} (hh : Has w w.heap.size A xs) : Has wr w.heap.size A xs := hh.below h.low (Nat.le_refl _)
theorem Rs.post (h : Rs w sb v1 v2 f s wr) (hp : SlPost wr (fun _ => True) sb v1 v2 f s' wz) : ∃ u1 u2, Rs w sb u1 u2 f s' wz := by
  obtain ⟨u1, u2, h1, h2, h3⟩ := hp
  refine ⟨u1, u2, h1.mono (fun _ _ => trivial), fun k hk => ?_, h.low.trans (h3.below h.low.size (fun k hk hz => ?_))⟩
  · rcases h2 k hk with h2 | h2
    · exact h.zn k h2
    · exact Nat.le_trans h.low.size h2
  · have := h.zn k hz; omega
theorem Sl.off {Z : Nat → Prop} {k : Nat} {t : TypeId} {cs : Array Value} (h : Sl wr Z sb v1 v2 f s) (hb : Blk wr k t cs) (h1 : t ≠ 67) (h2 : t ≠ 88) : ¬ SZ sb v1 v2 k := by
  obtain ⟨cv, M1, M2, a, _, b, c⟩ := h.mem
  rintro (rfl | hk | hk)
  · exact hb.ne_ a h1 rfl
  · exact own_blk_ne b.own hb (Ne.symm h2) hk
  · exact own_blk_ne c.own hb (Ne.symm h2) hk
/-- A block of another type is as it was. -/
theorem SlPost.far {Z : Nat → Prop} {k : Nat} {t : TypeId} {cs : Array Value} (hp : SlPost wr Z sb v1 v2 f s' wz) (h : Sl wr Z sb v1 v2 f s) (hb : Blk wr k t cs) (h1 : t ≠ 67) (h2 : t ≠ 88) : Blk wz k t cs := by
  obtain ⟨_, _, _, _, ht⟩ := hp
  exact ht.blk hb (h.off hb h1 h2)
theorem SlPost.farRow {Z : Nat → Prop} {b m n : Nat} {t : TypeId} {v : Value} {xs : List Value} (hp : SlPost wr Z sb v1 v2 f s' wz) (h : Sl wr Z sb v1 v2 f s) (ho : wr.ownsRow b t m v n xs) (h1 : t ≠ 67) (h2 : t ≠ 88) : wz.ownsRow b t m v n xs := by
  obtain ⟨_, _, _, _, ht⟩ := hp
  refine ht.own ho fun g hg => ?_
  rcases ho.2 with ⟨rfl, _⟩ | ⟨g', cap, cur, rfl, _, hh, _⟩
  · cases hg
  · have : g' = g := Option.some.inj hg
    subst this
    exact h.off (show Blk wr g' t cur from hh) h1 h2
theorem SlPost.turn {Z : Nat → Prop} (hp : SlPost wr Z sb v1 v2 f s' wz) : Turn (SZ sb v1 v2) wr wz := by
  obtain ⟨_, _, _, _, ht⟩ := hp
  exact ht
theorem rs_new {n : Nat} (h1 : 1 ≤ f) (h4 : f ≤ 4) (hn : (n : Int) = 3 * f + 1) (w u : World) (hu : Below w.heap.size w u) : Calls Try.prog 6 #[.int .i64 f] u fun e w' => ∃ sb v1 v2, e = .returned (.tuple #[.pointer (some ⟨sb, 0, none⟩), .int .i64 0]) ∧ Rs w sb v1 v2 f (Sx.new n) w' ∧ Below u.heap.size u w' ∧ (∀ k, SZ sb v1 v2 k → u.heap.size ≤ k) :=
  (slnew_any h1 h4 hn u).mono fun _ _ ⟨sb, v1, v2, he, hs, hz, hb⟩ => ⟨sb, v1, v2, he, ⟨hs.mono (fun _ _ => trivial), fun k hk => Nat.le_trans hu.size (hz k hk), hu.trans (hb.mono hu.size)⟩, hb, hz⟩
end
/-- One request's cells, as a slice. -/
theorem has_one {w : World} {g : Nat} (r : Rq) (h : Blk w g 71 #[.int .i64 r.cl, .int .i64 r.tm, .int .i64 r.kd, .int .i64 r.ky, .int .i64 r.vl, .int .i64 r.sg]) : Has w w.heap.size (some ⟨g, 0, none⟩) (reqCells [r]) := h.has h.lt
/-- The document's example. -/
def wk14 : Rq := ⟨0, 1, 0, 0, 0, 0⟩
def wkS (k : Nat) : Sx := ⟨some [wk14], (List.range 4).map fun j => if j < k then ⟨true, 10 + (j : Int), [wk14]⟩ else offV, List.replicate 4 offV⟩
theorem wk_vote : ∀ k, k < 3 → (wkS k).vote 4 (k : Int) (10 + (k : Int)) [wk14] = (true, wkS (k + 1)) := by decide +kernel
theorem wk_prep : ∀ k, k < 3 → (wkS k).prep 3 = none := by decide +kernel
set_option maxHeartbeats 2000000 in
theorem wakes14_any (w : World) : Calls Try.prog 7 #[] w fun e w' => e = .returned (.bool true) ∧ Below w.heap.size w w' := by
  go_enter Try.func7, Try.ntmps7
  go_wp2_with fail
  refine (rs_new (f := 1) (n := 4) (by omega) (by omega) (by omega) w w (Below.refl _ _)).mono ?_
  rintro e w1 ⟨sb, v1, v2, rfl, hR, -, -⟩
  have HBox := Lib.hid (Blk.new w1 71 #[.int .i64 0, .int .i64 1, .int .i64 0, .int .i64 0, .int .i64 0, .int .i64 0])
  have HR := Lib.hid (hR.below (wz := w1.alloc (.cells #[.int .i64 0, .int .i64 1, .int .i64 0, .int .i64 0, .int .i64 0, .int .i64 0] 71)) ((Below.refl _ _).alloc (Nat.le_refl _) _))
  clear hR
  go_wp2_with fail
  refine (spre_any HR.out.sl (has_one wk14 HBox.out) (n := 1) rfl (by omega)).mono ?_
  rintro e w2 ⟨rfl, hp⟩
  rw [show (!(Sx.new 4).ch.isSome) = true from rfl]
  have HX2 := Lib.hid (hp.far HR.out.sl HBox.out (by decide) (by decide))
  obtain ⟨u1, u2, hr⟩ := HR.out.post hp
  have HR2 := Lib.hid hr
  obtain ⟨gb, hgb⟩ : ∃ y, w1.heap.size = y := ⟨_, rfl⟩
  rw [hgb] at HX2 ⊢
  clear hp hr HR HBox hgb
  go_wp2_with fail
  refine (spre_any HR2.out.sl (has_one wk14 HX2.out) (n := 1) rfl (by omega)).mono ?_
  rintro e w3 ⟨rfl, hp⟩
  rw [show (!((Sx.new 4).pre [wk14]).ch.isSome) = false from rfl]
  have HX3 := Lib.hid (hp.far HR2.out.sl HX2.out (by decide) (by decide))
  obtain ⟨t1, t2, hr⟩ := HR2.out.post hp
  have HR3 := Lib.hid (show Rs w sb t1 t2 1 (wkS 0) w3 from hr)
  clear hp hr HR2 HX2
  go_wp2_with fail
  go_loopw [4] (fun x wr => ∃ (k : Nat) (v1 v2 : Value), x = .int .i64 k ∧ k ≤ 3 ∧ Hid (Rs w sb v1 v2 1 (wkS k) wr) ∧ Hid (Blk wr gb 71 #[.int .i64 0, .int .i64 1, .int .i64 0, .int .i64 0, .int .i64 0, .int .i64 0])) (fun x _ => 3 - (intOf x).toNat)
  case atStart => exact ⟨0, t1, t2, rfl, by omega, HR3, HX3⟩
  case round =>
    obtain ⟨k, v1, v2, rfl, hk, HR, HX⟩ := hrel
    by_cases hlt : k < 3
    · have HP := Lib.hid (sprep_any HR.out.sl (q := 3) (by omega))
      rw [wk_prep k hlt] at HP
      have HV := Lib.hid (wk_vote k hlt)
      go_wp2_with fail
      refine HP.out.mono ?_
      rintro e w5 ⟨u, rfl, ho, hb⟩
      obtain ⟨A5, d5, rfl, -, -⟩ := own_slice ho
      have HR5 := Lib.hid (HR.out.below hb)
      have HX5 := Lib.hid (HX.out.below hb HX.out.lt)
      clear ho hb HP
      go_wp2_with fail
      refine (svote_any HR5.out.sl 4 k (10 + k) (has_one wk14 HX5.out) (n := 1) rfl (by omega)).mono ?_
      rintro e w6 ⟨rfl, hp⟩
      have HX6 := Lib.hid (hp.far HR5.out.sl HX5.out (by decide) (by decide))
      obtain ⟨x1, x2, hr⟩ := HR5.out.post hp
      rw [HV.out] at hr ⊢
      have HR6 := Lib.hid hr
      clear hp hr
      go_wp2_with fail
      go_roundw
      case rel => exact ⟨k + 1, x1, x2, by go_num, by omega, HR6, HX6⟩
      case measure => simp [intOf]; omega
    · obtain rfl : k = 3 := by omega
      have HP := Lib.hid (sprep_any HR.out.sl (q := 3) (by omega))
      rw [show (wkS 3).prep 3 = some [⟨0, 10⟩, ⟨1, 11⟩, ⟨2, 12⟩] by decide +kernel] at HP
      go_wp2_with fail
      refine HP.out.mono ?_
      rintro e w5 ⟨u, rfl, ho, hb⟩
      have HL := Lib.hid (HR.out.low.trans (hb.mono HR.out.low.size))
      have HO := Lib.hid ho
      obtain ⟨A5, d5, rfl, -, -⟩ := own_slice ho
      clear ho hb HP
      have HB6 := Lib.hid (show Below w5.heap.size w5 (w5.alloc (.cells #[.int .i64 0, .int .i64 10, .int .i64 1, .int .i64 11, .int .i64 2, .int .i64 12] 78)) from (Below.refl _ _).alloc (Nat.le_refl _) _)
      have HN6 := Lib.hid (Blk.new w5 78 #[.int .i64 0, .int .i64 10, .int .i64 1, .int .i64 11, .int .i64 2, .int .i64 12])
      have HS := Lib.hid (same_votes_is (A := A5) (A' := some ⟨w5.heap.size, 0, none⟩) (c := d5) (c' := 3) (la := 3) (lb := 3) (zs := [⟨0, 10⟩, ⟨1, 11⟩, ⟨2, 12⟩]) (ys := [⟨0, 10⟩, ⟨1, 11⟩, ⟨2, 12⟩]) (r := true) rfl rfl (by omega) (by decide +kernel) _ ((has_rows (below_own HO.out HB6.out (Nat.le_refl _)))) (HN6.out.has HN6.out.lt))
      go_wp2_with fail
      refine HS.out.mono ?_
      rintro e w7 ⟨rfl, m, rfl⟩
      go_wp2_with fail
      go_ret
      exact ⟨rfl, (HL.out.trans (HB6.out.mono HL.out.size)).trans ⟨rfl, rfl, rfl, Nat.le_refl _, fun _ _ => rfl⟩⟩
end Go.Proofs.Ytcebnmhkbhhfiaa
namespace Go.Proofs.Ytcebnmhkbhhfiaa
open Go.RowKit
set_option linter.unusedSimpArgs false

/-- The marked nodes have voted for b, with seals from s0 on. -/
def tellM (n : Nat) (bs : List Bool) (s0 : Int) (b : List Rq) : List Vo := (List.range n).map fun (k : Nat) => if bs[k]? = some true then ⟨true, s0 + (k : Int), b⟩ else offV
def noM : List Bool := List.replicate 13 false
theorem tellM_len (n : Nat) (bs : List Bool) (s0 : Int) (b : List Rq) : (tellM n bs s0 b).length = n := by simp [tellM]
theorem tellM_at {n k : Nat} (bs : List Bool) (s0 : Int) (b : List Rq) (h : k < n) : (tellM n bs s0 b)[k]? = some (if bs[k]? = some true then ⟨true, s0 + (k : Int), b⟩ else offV) := by
  unfold tellM
  rw [List.getElem?_map, List.getElem?_range h]
  rfl
theorem tellM_zero {n m : Nat} (s0 : Int) (b : List Rq) : tellM n (List.replicate m false) s0 b = List.replicate n offV := by
  refine List.ext_getElem? fun k => ?_
  by_cases h : k < n
  · rw [tellM_at _ _ _ h, List.getElem?_replicate, List.getElem?_replicate, if_pos h, if_neg]
    split <;> simp
  · rw [List.getElem?_eq_none (by rw [tellM_len]; omega), List.getElem?_eq_none (by rw [List.length_replicate]; omega)]
theorem tellM_set {n k : Nat} {bs : List Bool} (hk : k < bs.length) (s0 : Int) (b : List Rq) : (tellM n bs s0 b).set k ⟨true, s0 + (k : Int), b⟩ = tellM n (bs.set k true) s0 b := by
  refine List.ext_getElem? fun j => ?_
  by_cases h : j < n
  · rw [List.getElem?_set, tellM_at _ _ _ h, tellM_at _ _ _ h, tellM_len, List.getElem?_set]
    by_cases e : k = j
    · subst e
      rw [if_pos rfl, if_pos h, if_pos rfl, if_pos hk, if_pos rfl]
    · rw [if_neg e, if_neg e]
  · rw [List.getElem?_eq_none (by rw [List.length_set, tellM_len]; omega), List.getElem?_eq_none (by rw [tellM_len]; omega)]
theorem tellM_had {n k : Nat} {bs : List Bool} (h : k < n) (hb : bs[k]? = some true) (s0 : Int) (b : List Rq) : votS (tellM n bs s0 b) (k : Int) (s0 + (k : Int)) b = (false, tellM n bs s0 b) :=
  votS_had (x := ⟨true, s0 + (k : Int), b⟩) (by rw [tellM_at _ _ _ h, if_pos hb]) rfl
theorem tellM_new {n k : Nat} {bs : List Bool} (h : k < n) (hb : bs[k]? = some false) (s0 : Int) (b : List Rq) : votS (tellM n bs s0 b) (k : Int) (s0 + (k : Int)) b = (true, tellM n (bs.set k true) s0 b) := by
  rw [votS_new (x := offV) (by rw [tellM_at _ _ _ h, if_neg (by rw [hb]; simp)]) rfl, tellM_set (List.getElem?_eq_some_iff.1 hb).1]
theorem set_same {bs : List Bool} {k : Nat} (h : bs[k]? = some true) : bs.set k true = bs := by
  obtain ⟨h1, h2⟩ := List.getElem?_eq_some_iff.1 h
  rw [← h2, List.set_getElem_self]
theorem tellM_any {n k : Nat} {bs : List Bool} {c : Bool} (h : k < n) (hb : bs[k]? = some c) (s0 : Int) (b : List Rq) : votS (tellM n bs s0 b) (k : Int) (s0 + (k : Int)) b = (!c, tellM n (bs.set k true) s0 b) := by
  cases c
  · exact tellM_new h hb s0 b
  · rw [set_same hb]; exact tellM_had h hb s0 b
section
variable {w wr : World} {sb q : Nat} {v1 v2 : Value} {f : Int} {s : Sx} {l : List Vt} {b : List Rq}
theorem prep_none (h : Rs w sb v1 v2 f s wr) (hq : (q : Int) = 2 * f + 1) (hs : s.prep q = none) :
    Calls Try.prog 24 #[.pointer (some ⟨sb, 0, none⟩)] wr fun e w' => ∃ A d, e = .returned (.tuple #[.slice A 0 d, .bool false]) ∧ Below wr.heap.size wr w' := by
  have := sprep_any h.sl hq
  rw [hs] at this
  refine this.mono fun e w' ⟨u, he, ho, hb⟩ => ?_
  obtain ⟨A, d, rfl, -, -⟩ := own_slice ho
  exact ⟨A, d, he, hb⟩
theorem prep_some (h : Rs w sb v1 v2 f s wr) (hq : (q : Int) = 2 * f + 1) (hs : s.prep q = some l) (hl : l.length = q) :
    Calls Try.prog 24 #[.pointer (some ⟨sb, 0, none⟩)] wr fun e w' => ∃ A d, e = .returned (.tuple #[.slice A q d, .bool true]) ∧ w'.ownsRow wr.heap.size 78 2 (.slice A q d) q (voteCells l) ∧ Below wr.heap.size wr w' := by
  have := sprep_any h.sl hq
  rw [hs] at this
  refine this.mono fun e w' ⟨u, he, ho, hb⟩ => ?_
  have ho' : w'.ownsRow wr.heap.size 78 2 u q (voteCells l) := by rw [← hl]; exact ho
  obtain ⟨A, d, rfl, -, -⟩ := own_slice ho'
  exact ⟨A, d, he, ho', hb⟩
theorem com_none (h : Rs w sb v1 v2 f s wr) (hq : (q : Int) = 2 * f + 1) (hs : s.com q = none) :
    Calls Try.prog 37 #[.pointer (some ⟨sb, 0, none⟩)] wr fun e w' => ∃ A d A' d', e = .returned (.tuple #[.slice A 0 d, .slice A' 0 d', .bool false]) ∧ Below wr.heap.size wr w' := by
  have := scom_any h.sl hq
  rw [hs] at this
  refine this.mono fun e w' ⟨u, u', he, ho, ho', hb⟩ => ?_
  obtain ⟨A, d, rfl, -, -⟩ := own_slice ho
  obtain ⟨A', d', rfl, -, -⟩ := own_slice ho'
  exact ⟨A, d, A', d', he, hb⟩
theorem com_some (h : Rs w sb v1 v2 f s wr) (hq : (q : Int) = 2 * f + 1) (hs : s.com q = some (b, l)) (hl : l.length = q) {n : Nat} (hn : b.length = n) :
    Calls Try.prog 37 #[.pointer (some ⟨sb, 0, none⟩)] wr fun e w' => ∃ A d A' d', e = .returned (.tuple #[.slice A n d, .slice A' q d', .bool true]) ∧ w'.ownsRow wr.heap.size 71 6 (.slice A n d) n (reqCells b) ∧ w'.ownsRow wr.heap.size 78 2 (.slice A' q d') q (voteCells l) ∧ Below wr.heap.size wr w' := by
  have := scom_any h.sl hq
  rw [hs] at this
  refine this.mono fun e w' ⟨u, u', he, ho, ho', hb⟩ => ?_
  have k1 : w'.ownsRow wr.heap.size 71 6 u n (reqCells b) := by rw [← hn]; exact ho
  have k2 : w'.ownsRow wr.heap.size 78 2 u' q (voteCells l) := by rw [← hl]; exact ho'
  obtain ⟨A, d, rfl, -, -⟩ := own_slice k1
  obtain ⟨A', d', rfl, -, -⟩ := own_slice k2
  exact ⟨A, d, A', d', he, k1, k2, hb⟩
end
theorem tell_other {b c : List Rq} (h : b ≠ c) (n k : Nat) (bs : List Bool) (s0 : Int) : forL k (tellM n bs s0 b) c = [] := by
  refine List.eq_nil_iff_length_eq_zero.2 ?_
  have : ∀ (l : List Nat) (k : Nat), forL k (l.map fun (k : Nat) => if bs[k]? = some true then (⟨true, s0 + (k : Int), b⟩ : Vo) else offV) c = [] := by
    intro l
    induction l with
    | nil => intro k; rfl
    | cons x l ih =>
      intro k
      rw [List.map_cons, forL_cons, ih (k + 1), if_neg]
      by_cases e : bs[x]? = some true
      · rw [if_pos e]; exact fun e => h e.2
      · rw [if_neg e]; rintro ⟨e, -⟩; cases e
  rw [show forL k (tellM n bs s0 b) c = [] from this _ _]; rfl
section
variable {w wr wz : World} {sb : Nat} {v1 v2 : Value} {f : Int} {s : Sx}
/-- A slot is as it was where a row of another type has grown. -/
theorem Rs.grown (h : Rs w sb v1 v2 f s wr) {b n m : Nat} {t : TypeId} {v : Value} {xs : List Value} (ho : wr.ownsRow b t m v n xs) (hb : w.heap.size ≤ b) (hg : wr.grownBy wz v.ownBlock) (h1 : t ≠ 67) (h2 : t ≠ 88) (h3 : t ≠ 71) : Rs w sb v1 v2 f s wz := by
  have ht : Turn (fun k => v.ownBlock = some k) wr wz := (Turn.refl _ wr).grown hg (fun k hk _ => hk)
  refine ⟨h.sl.kept ht (fun k hk e => ?_) (fun u y hu g hg' e => ?_), h.zn, h.low.trans (ht.below h.low.size (fun k hk e => by have := (ho.lt k e).1; omega))⟩
  · rcases ho.2 with ⟨rfl, _⟩ | ⟨g', cap, cur, rfl, _, hh, _⟩
    · cases e
    · have : g' = k := Option.some.inj e
      subst this
      exact h.sl.off (show Blk wr g' t cur from hh) h1 h2 hk
  · rcases own_apart hu.own ho (Ne.symm h3) with e' | e'
    · rw [e'] at hg'; cases hg'
    · exact e' (hg'.trans e.symm)
end
end Go.Proofs.Ytcebnmhkbhhfiaa
namespace Go.Proofs.Ytcebnmhkbhhfiaa
open Go.RowKit
set_option linter.unusedSimpArgs false

/-- Two slots that share no block but those of batches. -/
structure Tw14 (w : World) (sa : Nat) (a1 a2 : Value) (sb : Nat) (b1 b2 : Value) (f : Int) (s t : Sx) (wr : World) : Prop where
  ra : Rs w sa a1 a2 f s wr
  rb : Rs w sb b1 b2 f t wr
  ap : ∀ k, SZ sa a1 a2 k → ¬ SZ sb b1 b2 k
section
variable {w wr wz : World} {sa sb : Nat} {a1 a2 b1 b2 : Value} {f : Int} {s t s' t' : Sx}
theorem Tw14.below (h : Tw14 w sa a1 a2 sb b1 b2 f s t wr) (hb : Below wr.heap.size wr wz) : Tw14 w sa a1 a2 sb b1 b2 f s t wz := ⟨h.ra.below hb, h.rb.below hb, h.ap⟩
theorem Tw14.drewN (h : Tw14 w sa a1 a2 sb b1 b2 f s t wr) (m : Nat) : Tw14 w sa a1 a2 sb b1 b2 f s t (wr.drewN m) := ⟨h.ra.drewN m, h.rb.drewN m, h.ap⟩
theorem Tw14.swap (h : Tw14 w sa a1 a2 sb b1 b2 f s t wr) : Tw14 w sb b1 b2 sa a1 a2 f t s wr := ⟨h.rb, h.ra, fun k h1 h2 => h.ap k h2 h1⟩
theorem Tw14.post (h : Tw14 w sa a1 a2 sb b1 b2 f s t wr) (hp : SlPost wr (fun _ => True) sa a1 a2 f s' wz) : ∃ u1 u2, Tw14 w sa u1 u2 sb b1 b2 f s' t wz := by
  obtain ⟨u1, u2, h1, h2, h3⟩ := hp
  obtain ⟨low, hzn⟩ : Below w.heap.size w wz ∧ ∀ k, SZ sa u1 u2 k → w.heap.size ≤ k := by
    refine ⟨h.ra.low.trans (h3.below h.ra.low.size (fun k hk hz => ?_)), fun k hk => ?_⟩
    · have := h.ra.zn k hz; omega
    · rcases h2 k hk with h2 | h2
      · exact h.ra.zn k h2
      · exact Nat.le_trans h.ra.low.size h2
  refine ⟨u1, u2, ⟨h1.mono (fun _ _ => trivial), hzn, low⟩, ⟨h.rb.sl.kept h3 (fun k hk e => h.ap k e hk) (fun u b hu g hg => h.ra.sl.apart hu hg), h.rb.zn, low⟩, fun k hk hb => ?_⟩
  rcases h2 k hk with h2 | h2
  · exact h.ap k h2 hb
  · have := h.rb.sl.lt hb; omega
theorem tw14_new {n : Nat} (hra : Rs w sa a1 a2 f s wr) (h1 : 1 ≤ f) (h4 : f ≤ 4) (hn : (n : Int) = 3 * f + 1) : Calls Try.prog 6 #[.int .i64 f] wr fun e w' => ∃ sb v1 v2, e = .returned (.tuple #[.pointer (some ⟨sb, 0, none⟩), .int .i64 0]) ∧ Tw14 w sa a1 a2 sb v1 v2 f s (Sx.new n) w' :=
  (rs_new h1 h4 hn w wr hra.low).mono fun _ _ ⟨sb, v1, v2, he, hs, hb, hz⟩ => ⟨sb, v1, v2, he, ⟨hra.below hb, hs, fun k hk hk2 => by have := hra.sl.lt hk; have := hz k hk2; omega⟩⟩
end
/-- The marked are just those told by the first i. -/
structure Mk (bs : List Bool) (i : Nat) (g : Nat → Nat) : Prop where
  len : bs.length = 13
  is : ∀ k, bs[k]? = some true ↔ ∃ j, j < i ∧ g j = k
theorem Mk.zero (g : Nat → Nat) : Mk noM 0 g := ⟨rfl, fun k => ⟨fun h => by unfold noM at h; rw [List.getElem?_replicate] at h; split at h <;> simp at h, fun ⟨j, h, _⟩ => by omega⟩⟩
theorem Mk.step {bs : List Bool} {i : Nat} {g : Nat → Nat} (h : Mk bs i g) {k : Nat} (hk : g i = k) (h13 : k < 13) : Mk (bs.set k true) (i + 1) g := by
  refine ⟨by rw [List.length_set]; exact h.len, fun m => ?_⟩
  rw [List.getElem?_set]
  by_cases e : k = m
  · subst e
    rw [if_pos rfl, if_pos (by rw [h.len]; exact h13)]
    exact ⟨fun _ => ⟨i, by omega, hk⟩, fun _ => rfl⟩
  · rw [if_neg e, h.is]
    constructor
    · rintro ⟨j, hj, hg⟩; exact ⟨j, by omega, hg⟩
    · rintro ⟨j, hj, hg⟩
      refine ⟨j, ?_, hg⟩
      by_cases e2 : j = i
      · subst e2; exact absurd (hk.symm.trans hg) e
      · omega
theorem Mk.tell {bs cs : List Bool} {i : Nat} {g g' : Nat → Nat} (h : Mk bs i g) (h' : Mk cs i g') (hp : ∀ k, (∃ j, j < i ∧ g j = k) ↔ (∃ j, j < i ∧ g' j = k)) (n : Nat) (s0 : Int) (b : List Rq) : tellM n bs s0 b = tellM n cs s0 b := by
  unfold tellM
  refine List.map_congr_left fun k _ => ?_
  by_cases e : bs[k]? = some true
  · rw [if_pos e, if_pos ((h'.is k).2 ((hp k).1 ((h.is k).1 e)))]
  · rw [if_neg e, if_neg (fun e2 => e ((h.is k).2 ((hp k).2 ((h'.is k).1 e2))))]
/-- Whoever is told with a turn is told. -/
theorem turned {m : Nat} (hm : 0 < m) (t : Nat) (z : Nat → Nat) (k : Nat) : (∃ j, j < m ∧ z j = k) ↔ (∃ j, j < m ∧ z ((j + t) % m) = k) := by
  constructor
  · rintro ⟨j, hj, rfl⟩
    refine ⟨(j + (m - t % m)) % m, Nat.mod_lt _ hm, ?_⟩
    congr 1
    have h1 : t % m < m := Nat.mod_lt _ hm
    rw [Nat.add_mod, Nat.mod_mod, ← Nat.add_mod]
    have h2 : j + (m - t % m) + t = j + m * (t / m) + m := by
      have := Nat.div_add_mod t m
      omega
    rw [h2, Nat.add_mod_right, Nat.add_mul_mod_self_left, Nat.mod_eq_of_lt hj]
  · rintro ⟨j, hj, rfl⟩
    exact ⟨_, Nat.mod_lt _ hm, rfl⟩
theorem forL_tell (n : Nat) (bs : List Bool) (s0 s1 : Int) (b : List Rq) : (forL 0 (tellM n bs s0 b) b).length = (forL 0 (tellM n bs s1 b) b).length := by
  have : ∀ (l : List Nat) (k : Nat), (forL k (l.map fun (k : Nat) => if bs[k]? = some true then (⟨true, s0 + (k : Int), b⟩ : Vo) else offV) b).length = (forL k (l.map fun (k : Nat) => if bs[k]? = some true then (⟨true, s1 + (k : Int), b⟩ : Vo) else offV) b).length := by
    intro l
    induction l with
    | nil => intro k; rfl
    | cons x l ih =>
      intro k
      rw [List.map_cons, List.map_cons, forL_cons, forL_cons]
      by_cases e : bs[x]? = some true
      · rw [if_pos e, if_pos e, if_pos ⟨rfl, rfl⟩, if_pos ⟨rfl, rfl⟩, List.length_cons, List.length_cons, ih]
      · rw [if_neg e, if_neg e, if_neg (by rintro ⟨e, -⟩; cases e), if_neg (by rintro ⟨e, -⟩; cases e), ih]
  exact this _ _
theorem decS_tell {n q : Nat} {bs : List Bool} {s0 : Int} (s1 : Int) {b : List Rq} (h : decS (tellM n bs s0 b) b q = none) : decS (tellM n bs s1 b) b q = none := by
  refine decS_none ?_
  rw [forL_tell n bs s1 s0 b]
  unfold decS at h
  split at h
  · cases h
  · omega
theorem decS_tell2 {n q : Nat} {bs : List Bool} {s0 : Int} (s1 : Int) {b : List Rq} {l : List Vt} (h : decS (tellM n bs s0 b) b q = some l) : ∃ l', decS (tellM n bs s1 b) b q = some l' ∧ l'.length = q := by
  have h1 := (decS_is h).1
  rw [forL_tell n bs s0 s1 b] at h1
  exact ⟨_, decS_some h1, (decS_is (decS_some h1)).2.2⟩
/-- What no quorum has voted for is not committed. -/
theorem com_tell {n q : Nat} {bs : List Bool} {s0 : Int} {b : List Rq} (hb : b ≠ []) (h0 : 0 < q) (h : decS (tellM n bs s0 b) b q = none) : comS q (tellM n bs s0 b) (tellM n bs s0 b) = none := by
  refine comS_none fun x hx => ?_
  obtain ⟨k, hk⟩ := List.getElem?_of_mem hx
  have hkn : k < n := by have := (List.getElem?_eq_some_iff.1 hk).1; rwa [tellM_len] at this
  rw [tellM_at _ _ _ hkn] at hk
  injection hk with hk
  by_cases e : bs[k]? = some true
  · rw [if_pos e] at hk
    rw [← hk]; exact h
  · rw [if_neg e] at hk
    rw [← hk]
    exact decS_none (by rw [show forL 0 (tellM n bs s0 b) offV.bt = [] from tell_other hb _ _ _ _]; exact h0)
theorem comS_mem {q : Nat} {L : List Vo} : ∀ {M : List Vo} {b : List Rq} {v : List Vt}, comS q L M = some (b, v) → ∃ x ∈ M, x.bt = b
  | [], _, _, h => by cases h
  | x :: M, b, v, h => by
    unfold comS at h
    cases hd : decS L x.bt q with
    | some u =>
      rw [hd] at h
      injection h with h
      injection h with h1 h2
      exact ⟨x, List.mem_cons_self, h1⟩
    | none =>
      rw [hd] at h
      obtain ⟨y, hy, hb⟩ := comS_mem h
      exact ⟨y, List.mem_cons_of_mem _ hy, hb⟩
theorem Sl.com_low {w : World} {Z : Nat → Prop} {sb : Nat} {v1 v2 : Value} {f : Int} {s : Sx} (h : Sl w Z sb v1 v2 f s) (q : Nat) : (batOf (s.com q)).length ≤ 1000000 := by
  cases hc : s.com q with
  | none => exact Nat.zero_le _
  | some r =>
    obtain ⟨b, v⟩ := r
    obtain ⟨x, hx, hb⟩ := comS_mem hc
    obtain ⟨cv, M1, M2, _, _, _, h4⟩ := h.mem
    rw [← h4.is] at hx
    obtain ⟨e, he, rfl⟩ := List.mem_map.1 hx
    have := (h4.all e he).low
    rw [hb] at this
    exact this
theorem decS_len {L : List Vo} {b : List Rq} {q : Nat} : (vtsOf (decS L b q)).length ≤ L.length := by
  unfold decS vtsOf
  split
  · show ((forL 0 L b).take q).length ≤ _
    have := forL_le L 0 b
    rw [List.length_take]; omega
  · exact Nat.zero_le _
end Go.Proofs.Ytcebnmhkbhhfiaa
