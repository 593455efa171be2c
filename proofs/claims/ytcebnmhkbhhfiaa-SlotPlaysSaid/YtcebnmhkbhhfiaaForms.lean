/- Plain: requests, votes, certificates, parts as rows of numbers; how they are written and taken. Nothing of the program. -/
import Derived.Test.YtcebnmhkbhhfiaaPlain
import Derived.Test.YtcebnmhkbhhfiaaSignum
namespace Go.Proofs.Ytcebnmhkbhhfiaa

structure Rq where
  (cl tm kd ky vl sg : Int)
deriving DecidableEq
structure Vt where
  (nd sg : Int)
deriving DecidableEq
structure Ct where
  (vw ins sq : Int)
  bt : List Rq
  vs : List Vt
deriving DecidableEq
structure Pt where
  fr : Int
  vs : List Vt
  cs : List Ct
  sg : Int
deriving DecidableEq

/-- A field as it is written: a number, a number with a sign, a list's length. -/
inductive Tok where
  | num (n : Int) | sgn (n : Int) | len (n : Nat)
def Tok.code : Tok → Option Nat
  | .num n => if 0 ≤ n ∧ n < 1099511627776 then some n.toNat else none
  | .sgn n => if -549755813888 ≤ n ∧ n < 549755813888 then some (zigS n).toNat else none
  | .len n => if n ≤ 256 then some n else none
/-- The numbers of a row of fields, or none if one cannot be written. -/
def codes : List Tok → Option (List Nat)
  | [] => some []
  | t :: l => match t.code, codes l with
    | some n, some ns => some (n :: ns)
    | _, _ => none
theorem codes_nil : codes [] = some [] := rfl
theorem codes_cons {t : Tok} {l : List Tok} {ns : List Nat} : codes (t :: l) = some ns ↔ ∃ n r, t.code = some n ∧ codes l = some r ∧ ns = n :: r := by
  simp only [codes]
  cases h1 : t.code <;> cases h2 : codes l <;> simp [eq_comm]
theorem codes_one {t : Tok} {n : Nat} (h : t.code = some n) : codes [t] = some [n] := by simp [codes, h]
theorem codes_none_head {t : Tok} {l : List Tok} (h : t.code = none) : codes (t :: l) = none := by simp [codes, h]
theorem codes_none_tail {t : Tok} {l : List Tok} (h : codes l = none) : codes (t :: l) = none := by
  simp only [codes, h]
  cases t.code <;> rfl
theorem codes_app (l m : List Tok) : codes (l ++ m) = (match codes l, codes m with | some a, some b => some (a ++ b) | _, _ => none) := by
  induction l with
  | nil => simp [codes]; cases codes m <;> rfl
  | cons t l ih =>
    simp only [List.cons_append, codes, ih]
    cases t.code <;> cases codes l <;> cases codes m <;> rfl
theorem codes_app_some {l m : List Tok} {a b : List Nat} (h1 : codes l = some a) (h2 : codes m = some b) : codes (l ++ m) = some (a ++ b) := by
  rw [codes_app, h1, h2]
theorem codes_app_none1 {l m : List Tok} (h1 : codes l = none) : codes (l ++ m) = none := by
  rw [codes_app, h1]
theorem codes_app_none2 {l m : List Tok} (h1 : codes m = none) : codes (l ++ m) = none := by
  rw [codes_app, h1]; cases codes l <;> rfl
theorem codes_app_iff {l m : List Tok} {ns : List Nat} : codes (l ++ m) = some ns ↔ ∃ a b, codes l = some a ∧ codes m = some b ∧ ns = a ++ b := by
  rw [codes_app]
  cases codes l <;> cases codes m <;> simp [eq_comm]
theorem code_small {t : Tok} {n : Nat} (h : t.code = some n) : n < 1099511627776 := by
  cases t with
  | num k => simp only [Tok.code] at h; split at h <;> simp at h; omega
  | sgn k =>
    simp only [Tok.code] at h; split at h <;> simp at h
    rename_i h1
    have := zigS_in h1.1 h1.2
    omega
  | len k => simp only [Tok.code] at h; split at h <;> simp at h; omega
theorem codes_small : ∀ {l : List Tok} {ns : List Nat}, codes l = some ns → ∀ m ∈ ns, m < 1099511627776
  | [], ns, h => by simp [codes] at h; subst h; simp
  | t :: l, ns, h => by
    obtain ⟨n, r, h1, h2, rfl⟩ := codes_cons.1 h
    intro m hm
    rcases List.mem_cons.1 hm with rfl | hm
    · exact code_small h1
    · exact codes_small h2 m hm
theorem codes_len : ∀ {l : List Tok} {ns : List Nat}, codes l = some ns → ns.length = l.length
  | [], ns, h => by simp [codes] at h; subst h; rfl
  | t :: l, ns, h => by
    obtain ⟨n, r, h1, h2, rfl⟩ := codes_cons.1 h
    simp [codes_len h2]

def Rq.toks (r : Rq) : List Tok := [.num r.cl, .num r.tm, .num r.kd, .sgn r.ky, .sgn r.vl, .num r.sg]
def Vt.toks (v : Vt) : List Tok := [.num v.nd, .num v.sg]
def listToks {α : Type} (f : α → List Tok) (l : List α) : List Tok := .len l.length :: l.flatMap f
def Ct.toks (c : Ct) : List Tok := .num c.vw :: .num c.ins :: .num c.sq :: (listToks Rq.toks c.bt ++ listToks Vt.toks c.vs)
def Pt.toks (p : Pt) : List Tok := .num p.fr :: (listToks Vt.toks p.vs ++ (listToks Ct.toks p.cs ++ [.num p.sg]))
/-- The bytes of a row of fields, or none. -/
def bytesOf (l : List Tok) : Option (List Int) := (codes l).map flat

/-- A number at a place. -/
def tk (zs : List Int) (i : Int) : Option (Nat × Nat) := if (takeS zs i).2.2 then some ((takeS zs i).1.toNat, (takeS zs i).2.1.toNat) else none
theorem tk_cases (zs : List Int) (i : Int) (hz : ∀ z ∈ zs, 0 ≤ z ∧ z ≤ 255) :
    (tk zs i = none ∧ takeS zs i = (0, 0, false)) ∨
    ∃ (m p q : Nat), i = p ∧ tk zs i = some (m, q) ∧ takeS zs i = ((m : Int), (q : Int), true) ∧ p < q ∧ q ≤ zs.length ∧ m < 1099511627776 ∧ (zs.drop p).take (q - p) = enc m := by
  rcases takeS_cases zs i hz with h | ⟨m, p, q, h1, h2, h3, h4, h5, h6⟩
  · exact Or.inl ⟨by simp [tk, h], h⟩
  · exact Or.inr ⟨m, p, q, h1, by simp [tk, h2], h2, h3, h4, h5, h6⟩

/-- These numbers are written in zs from i to j. -/
def At (zs : List Int) : Int → List Nat → Int → Prop
  | i, [], j => i = j
  | i, m :: ns, j => ∃ k : Nat, tk zs i = some (m, k) ∧ At zs k ns j
theorem At.app {zs : List Int} : ∀ {ns ms : List Nat} {i j : Int}, At zs i (ns ++ ms) j ↔ ∃ k, At zs i ns k ∧ At zs k ms j
  | [], ms, i, j => by simp [At]
  | m :: ns, ms, i, j => by
    simp only [List.cons_append, At]
    constructor
    · rintro ⟨k, h1, h2⟩
      obtain ⟨q, h3, h4⟩ := At.app.1 h2
      exact ⟨q, ⟨k, h1, h3⟩, h4⟩
    · rintro ⟨q, ⟨k, h1, h3⟩, h4⟩
      exact ⟨k, h1, At.app.2 ⟨q, h3, h4⟩⟩
theorem At.one {zs : List Int} {i : Int} {m k : Nat} (h : tk zs i = some (m, k)) : At zs i [m] k := ⟨k, h, rfl⟩
theorem At.next {zs : List Int} {i j : Int} {m : Nat} {ns : List Nat} {k : Nat} (h : tk zs i = some (m, k)) (h2 : At zs k ns j) : At zs i (m :: ns) j := ⟨k, h, h2⟩
/-- Where numbers are written, there are just their bytes. -/
theorem At.bytes {zs : List Int} (hz : ∀ z ∈ zs, 0 ≤ z ∧ z ≤ 255) : ∀ {ns : List Nat} {p : Nat} {j : Int}, At zs p ns j → p ≤ zs.length →
    ∃ q : Nat, j = q ∧ p ≤ q ∧ q ≤ zs.length ∧ (zs.drop p).take (q - p) = flat ns ∧ p + ns.length ≤ q
  | [], p, j, h, hp => ⟨p, h.symm, Nat.le_refl _, hp, by simp [flat], by simp⟩
  | m :: ns, p, j, ⟨k, h1, h2⟩, hp => by
    rcases tk_cases zs p hz with ⟨h3, _⟩ | ⟨m', p', q, h3, h4, _, h5, h6, _, h7⟩
    · rw [h3] at h1; cases h1
    · rw [h4] at h1
      injection h1 with h1
      injection h1 with h1 h8
      subst h1; subst h8
      have h3 : p = p' := by omega
      subst h3
      obtain ⟨r, h9, h10, h11, h12, h13⟩ := At.bytes hz h2 h6
      refine ⟨r, h9, by omega, h11, ?_, by simp; omega⟩
      rw [flat_cons, ← h7, ← h12, show r - p = (q - p) + (r - q) by omega, List.take_add, List.drop_drop, show p + (q - p) = q by omega]
theorem tk_enc (pre post : List Int) (m : Nat) (hm : m < 1099511627776) : tk (pre ++ (enc m ++ post)) pre.length = some (m, pre.length + (enc m).length) := by
  unfold tk
  rw [takeS_enc pre post m hm]
  simp; omega
theorem At.flat (post : List Int) : ∀ (ns : List Nat) (pre : List Int), (∀ m ∈ ns, m < 1099511627776) → At (pre ++ (flat ns ++ post)) pre.length ns ((pre.length + (flat ns).length : Nat) : Int)
  | [], pre, _ => by simp [At, Go.Proofs.Ytcebnmhkbhhfiaa.flat]
  | m :: ns, pre, h => by
    refine ⟨pre.length + (enc m).length, ?_, ?_⟩
    · rw [flat_cons, List.append_assoc]
      exact tk_enc pre _ m (h m (List.mem_cons_self ..))
    · have h1 := At.flat post ns (pre ++ enc m) (fun k hk => h k (List.mem_cons_of_mem _ hk))
      rw [List.length_append] at h1
      rw [flat_cons, List.length_append, ← Nat.add_assoc, show pre ++ (enc m ++ Go.Proofs.Ytcebnmhkbhhfiaa.flat ns ++ post) = pre ++ enc m ++ (Go.Proofs.Ytcebnmhkbhhfiaa.flat ns ++ post) by simp]
      exact h1
/-- The taken number is the same where the bytes go on behind it. -/
theorem dec_more (r : List Int) : ∀ (l : List Int) (s : Nat) (acc : Int) (p : Int × Nat), dec s acc l = some p → dec s acc (l ++ r) = some p
  | [], s, acc, p, h => by simp [dec] at h
  | g :: l, s, acc, p, h => by
    simp only [List.cons_append, dec] at h ⊢
    by_cases h1 : 40 ≤ s
    · rw [if_pos h1] at h; cases h
    rw [if_neg h1] at h ⊢
    by_cases h2 : g < 128
    · rw [if_pos h2] at h ⊢; exact h
    · rw [if_neg h2] at h ⊢
      rw [Option.map_eq_some_iff] at h ⊢
      obtain ⟨q, h3, h4⟩ := h
      exact ⟨q, dec_more r l _ _ q h3, h4⟩
theorem takeS_more {zs r : List Int} {i : Int} (h : (takeS zs i).2.2 = true) : takeS (zs ++ r) i = takeS zs i := by
  unfold takeS at h ⊢
  by_cases h0 : i < 0
  · rw [if_pos h0] at h; cases h
  rw [if_neg h0] at h ⊢
  rw [if_neg h0]
  unfold res at h ⊢
  rcases hd : dec 0 0 (zs.drop i.toNat) with _ | ⟨n, k⟩
  · rw [hd] at h; cases h
  · have hne : i.toNat ≤ zs.length := by
      rcases Nat.le_total i.toNat zs.length with h1 | h1
      · exact h1
      · rw [List.drop_eq_nil_of_le h1] at hd; cases hd
    rw [List.drop_append_of_le_length hne, dec_more r _ _ _ _ hd]
theorem tk_more {zs r : List Int} {i : Int} {p : Nat × Nat} (h : tk zs i = some p) : tk (zs ++ r) i = some p := by
  unfold tk at h ⊢
  by_cases h1 : (takeS zs i).2.2 = true
  · rw [if_pos h1] at h
    rw [takeS_more h1, if_pos h1]; exact h
  · rw [if_neg h1] at h; cases h
theorem At.more {zs : List Int} (r : List Int) : ∀ {ns : List Nat} {i j : Int}, At zs i ns j → At (zs ++ r) i ns j
  | [], _, _, h => h
  | _ :: _, _, _, ⟨k, h1, h2⟩ => ⟨k, tk_more h1, At.more r h2⟩

/-- Takers: a value and the place behind it. -/
abbrev Tkr (α : Type) := Int → Option (α × Int)
def tkNum (zs : List Int) : Tkr Int := fun i => match tk zs i with
  | some (n, k) => some ((n : Int), (k : Int))
  | none => none
def tkSgn (zs : List Int) : Tkr Int := fun i => match tk zs i with
  | some (n, k) => some (zagS n, (k : Int))
  | none => none
def tkLen (zs : List Int) : Tkr Nat := fun i => match tk zs i with
  | some (n, k) => if n ≤ 256 then some (n, (k : Int)) else none
  | none => none
def tkMany {α : Type} (f : Tkr α) : Nat → Int → Option (List α × Int)
  | 0, i => some ([], i)
  | n + 1, i => match f i with
    | some (x, k) => match tkMany f n k with
      | some (l, j) => some (x :: l, j)
      | none => none
    | none => none
def tkList {α : Type} (zs : List Int) (f : Tkr α) : Tkr (List α) := fun i => match tkLen zs i with
  | some (n, k) => tkMany f n k
  | none => none
def tkReq (zs : List Int) : Tkr Rq := fun i =>
  (tkNum zs i).bind fun c => (tkNum zs c.2).bind fun t => (tkNum zs t.2).bind fun k => (tkSgn zs k.2).bind fun y => (tkSgn zs y.2).bind fun v => (tkNum zs v.2).bind fun s =>
    some (⟨c.1, t.1, k.1, y.1, v.1, s.1⟩, s.2)
def tkVote (zs : List Int) : Tkr Vt := fun i => (tkNum zs i).bind fun n => (tkNum zs n.2).bind fun s => some (⟨n.1, s.1⟩, s.2)
def tkBatch (zs : List Int) : Tkr (List Rq) := tkList zs (tkReq zs)
def tkVotes (zs : List Int) : Tkr (List Vt) := tkList zs (tkVote zs)
def tkCert (zs : List Int) : Tkr Ct := fun i =>
  (tkNum zs i).bind fun v => (tkNum zs v.2).bind fun n => (tkNum zs n.2).bind fun q => (tkBatch zs q.2).bind fun b => (tkVotes zs b.2).bind fun o => some (⟨v.1, n.1, q.1, b.1, o.1⟩, o.2)
def tkCerts (zs : List Int) : Tkr (List Ct) := tkList zs (tkCert zs)
def tkPart (zs : List Int) : Tkr Pt := fun i =>
  (tkNum zs i).bind fun f => (tkVotes zs f.2).bind fun o => (tkCerts zs o.2).bind fun c => (tkNum zs c.2).bind fun s => some (⟨f.1, o.1, c.1, s.1⟩, s.2)
def tkParts (zs : List Int) : Tkr (List Pt) := tkList zs (tkPart zs)

/-- A taker takes just what is written so. -/
structure Tells {α : Type} (zs : List Int) (f : Tkr α) (g : α → List Tok) : Prop where
  fwd : ∀ {x : α} {ns : List Nat} {i j : Int}, codes (g x) = some ns → At zs i ns j → f i = some (x, j)
  back : ∀ {x : α} {i j : Int}, f i = some (x, j) → ∃ ns, codes (g x) = some ns ∧ At zs i ns j
section
variable {zs : List Int}
theorem code_num {n : Int} {m : Nat} : (Tok.num n).code = some m ↔ n = m ∧ m < 1099511627776 := by
  simp only [Tok.code]
  split <;> simp <;> omega
theorem code_len {n m : Nat} : (Tok.len n).code = some m ↔ n = m ∧ m ≤ 256 := by
  simp only [Tok.code]
  split <;> simp <;> omega
theorem zag_in {n : Int} (h1 : 0 ≤ n) (h2 : n < 1099511627776) : -549755813888 ≤ zagS n ∧ zagS n < 549755813888 := by
  unfold zagS; rw [if_neg (by omega)]; split <;> omega
theorem small_int {m : Nat} (h : m < 1099511627776) : (m : Int) < 1099511627776 := by omega
theorem small_nat {n : Int} (h0 : 0 ≤ n) (h : n < 1099511627776) : n.toNat < 1099511627776 := by omega
theorem code_sgn_in {n : Int} (h1 : -549755813888 ≤ n ∧ n < 549755813888) : (Tok.sgn n).code = some (zigS n).toNat := if_pos h1
theorem code_sgn_out {n : Int} (h1 : ¬ (-549755813888 ≤ n ∧ n < 549755813888)) : (Tok.sgn n).code = none := if_neg h1
theorem code_sgn1 {n : Int} {m : Nat} (h : (Tok.sgn n).code = some m) : n = zagS m := by
  by_cases h1 : -549755813888 ≤ n ∧ n < 549755813888
  · rw [code_sgn_in h1] at h
    have h4 := Option.some.inj h
    have h5 : ((zigS n).toNat : Int) = zigS n := Int.toNat_of_nonneg (zigS_in h1.1 h1.2).1
    rw [← h4, h5, zagS_zig h1.1 h1.2]
  · rw [code_sgn_out h1] at h; cases h
theorem code_sgn2 {m : Nat} (h : m < 1099511627776) : (Tok.sgn (zagS m)).code = some m := by
  have h0 : (0 : Int) ≤ m := Int.natCast_nonneg m
  rw [code_sgn_in (zag_in h0 (small_int h)), zigS_zag h0 (small_int h), Int.toNat_natCast]
theorem tk_small (hz : ∀ z ∈ zs, 0 ≤ z ∧ z ≤ 255) {i : Int} {m k : Nat} (h : tk zs i = some (m, k)) : m < 1099511627776 := by
  rcases tk_cases zs i hz with ⟨h1, _⟩ | ⟨m', p, q, _, h1, _, _, _, h2, _⟩
  · rw [h1] at h; cases h
  · rw [h1] at h; injection h with h; injection h with h h3; omega
theorem tells_num (hz : ∀ z ∈ zs, 0 ≤ z ∧ z ≤ 255) : Tells zs (tkNum zs) fun n => [.num n] := by
  constructor
  · intro x ns i j h ha
    obtain ⟨n, r, h1, h2, rfl⟩ := codes_cons.1 h
    simp [codes] at h2; subst h2
    obtain ⟨k, h3, h4⟩ := ha
    obtain ⟨rfl, _⟩ := code_num.1 h1
    cases h4
    simp [tkNum, h3]
  · intro x i j h
    unfold tkNum at h
    split at h <;> simp at h
    rename_i n k h1
    obtain ⟨rfl, rfl⟩ := h
    exact ⟨[n], codes_one (code_num.2 ⟨rfl, tk_small hz h1⟩), k, h1, rfl⟩
theorem tells_sgn (hz : ∀ z ∈ zs, 0 ≤ z ∧ z ≤ 255) : Tells zs (tkSgn zs) fun n => [.sgn n] := by
  constructor
  · intro x ns i j h ha
    obtain ⟨n, r, h1, h2, rfl⟩ := codes_cons.1 h
    simp [codes] at h2; subst h2
    obtain ⟨k, h3, h4⟩ := ha
    obtain rfl := code_sgn1 h1
    cases h4
    simp [tkSgn, h3]
  · intro x i j h
    unfold tkSgn at h
    split at h <;> simp at h
    rename_i n k h1
    obtain ⟨rfl, rfl⟩ := h
    exact ⟨[n], codes_one (code_sgn2 (tk_small hz h1)), k, h1, rfl⟩
theorem tells_len : Tells zs (tkLen zs) fun n => [.len n] := by
  constructor
  · intro x ns i j h ha
    obtain ⟨n, r, h1, h2, rfl⟩ := codes_cons.1 h
    simp [codes] at h2; subst h2
    obtain ⟨k, h3, h4⟩ := ha
    obtain ⟨rfl, h5⟩ := code_len.1 h1
    cases h4
    simp [tkLen, h3, h5]
  · intro x i j h
    unfold tkLen at h
    split at h <;> simp at h
    rename_i n k h1
    obtain ⟨h2, rfl, rfl⟩ := h
    exact ⟨[n], codes_one (code_len.2 ⟨rfl, h2⟩), k, h1, rfl⟩
theorem tells_many {α : Type} {f : Tkr α} {g : α → List Tok} (h : Tells zs f g) : ∀ {l : List α} {ns : List Nat} {i j : Int}, codes (l.flatMap g) = some ns → At zs i ns j → tkMany f l.length i = some (l, j)
  | [], ns, i, j, hc, ha => by
    simp [codes] at hc; subst hc
    cases ha
    rfl
  | x :: l, ns, i, j, hc, ha => by
    rw [List.flatMap_cons] at hc
    obtain ⟨a, b, h1, h2, rfl⟩ := codes_app_iff.1 hc
    obtain ⟨k, h3, h4⟩ := At.app.1 ha
    simp only [List.length_cons, tkMany, h.fwd h1 h3, tells_many h h2 h4]
theorem tells_many_back {α : Type} {f : Tkr α} {g : α → List Tok} (h : Tells zs f g) : ∀ {n : Nat} {l : List α} {i j : Int}, tkMany f n i = some (l, j) → l.length = n ∧ ∃ ns, codes (l.flatMap g) = some ns ∧ At zs i ns j
  | 0, l, i, j, ht => by
    simp [tkMany] at ht
    obtain ⟨rfl, rfl⟩ := ht
    exact ⟨rfl, [], rfl, rfl⟩
  | n + 1, l, i, j, ht => by
    simp only [tkMany] at ht
    split at ht <;> rename_i h1
    · split at ht <;> rename_i h2
      · injection ht with ht
        injection ht with h3 h4
        subst h3; subst h4
        obtain ⟨a, h5, h6⟩ := h.back h1
        obtain ⟨h7, b, h8, h9⟩ := tells_many_back h h2
        exact ⟨by simp [h7], a ++ b, by rw [List.flatMap_cons]; exact codes_app_some h5 h8, At.app.2 ⟨_, h6, h9⟩⟩
      · cases ht
    · cases ht
theorem tells_list {α : Type} {f : Tkr α} {g : α → List Tok} (h : Tells zs f g) : Tells zs (tkList zs f) (listToks g) := by
  constructor
  · intro l ns i j hc ha
    obtain ⟨n, r, h1, h2, rfl⟩ := codes_cons.1 hc
    obtain ⟨k, h3, h4⟩ := ha
    obtain ⟨rfl, h5⟩ := code_len.1 h1
    simp only [tkList, tkLen, h3, if_pos h5]
    exact tells_many h h2 h4
  · intro l i j ht
    unfold tkList at ht
    split at ht <;> rename_i h1
    · obtain ⟨a, h2, h3⟩ := tells_len.back h1
      obtain ⟨h4, b, h5, h6⟩ := tells_many_back h ht
      subst h4
      exact ⟨a ++ b, codes_app_some (l := [.len l.length]) h2 h5, At.app.2 ⟨_, h3, h6⟩⟩
    · cases ht
theorem tells_req (hz : ∀ z ∈ zs, 0 ≤ z ∧ z ≤ 255) : Tells zs (tkReq zs) Rq.toks := by
  constructor
  · rintro ⟨c, t, k, y, v, s⟩ ns i j hc ha
    simp only [Rq.toks, codes_cons] at hc
    obtain ⟨n1, _, h1, ⟨n2, _, h2, ⟨n3, _, h3, ⟨n4, _, h4, ⟨n5, _, h5, ⟨n6, r, h6, h7, rfl⟩, rfl⟩, rfl⟩, rfl⟩, rfl⟩, rfl⟩ := hc
    simp [codes] at h7; subst h7
    obtain ⟨k1, a1, k2, a2, k3, a3, k4, a4, k5, a5, k6, a6, rfl⟩ := ha
    obtain ⟨rfl, _⟩ := code_num.1 h1
    obtain ⟨rfl, _⟩ := code_num.1 h2
    obtain ⟨rfl, _⟩ := code_num.1 h3
    obtain rfl := code_sgn1 h4
    obtain rfl := code_sgn1 h5
    obtain ⟨rfl, _⟩ := code_num.1 h6
    simp [tkReq, tkNum, tkSgn, a1, a2, a3, a4, a5, a6]
  · intro x i j ht
    simp only [tkReq, Option.bind_eq_some_iff] at ht
    obtain ⟨⟨c, k1⟩, h1, ⟨t, k2⟩, h2, ⟨k, k3⟩, h3, ⟨y, k4⟩, h4, ⟨v, k5⟩, h5, ⟨s, k6⟩, h6, h7⟩ := ht
    injection h7 with h7
    injection h7 with h7 h8
    subst h7; subst h8
    obtain ⟨a1, b1, c1⟩ := (tells_num hz).back h1
    obtain ⟨a2, b2, c2⟩ := (tells_num hz).back h2
    obtain ⟨a3, b3, c3⟩ := (tells_num hz).back h3
    obtain ⟨a4, b4, c4⟩ := (tells_sgn hz).back h4
    obtain ⟨a5, b5, c5⟩ := (tells_sgn hz).back h5
    obtain ⟨a6, b6, c6⟩ := (tells_num hz).back h6
    exact ⟨a1 ++ (a2 ++ (a3 ++ (a4 ++ (a5 ++ a6)))), codes_app_some (l := [_]) b1 (codes_app_some (l := [_]) b2 (codes_app_some (l := [_]) b3 (codes_app_some (l := [_]) b4 (codes_app_some (l := [_]) b5 b6)))),
      At.app.2 ⟨_, c1, At.app.2 ⟨_, c2, At.app.2 ⟨_, c3, At.app.2 ⟨_, c4, At.app.2 ⟨_, c5, c6⟩⟩⟩⟩⟩⟩
theorem tells_vote (hz : ∀ z ∈ zs, 0 ≤ z ∧ z ≤ 255) : Tells zs (tkVote zs) Vt.toks := by
  constructor
  · rintro ⟨c, t⟩ ns i j hc ha
    simp only [Vt.toks, codes_cons] at hc
    obtain ⟨n1, _, h1, ⟨n2, r, h2, h7, rfl⟩, rfl⟩ := hc
    simp [codes] at h7; subst h7
    obtain ⟨k1, a1, k2, a2, rfl⟩ := ha
    obtain ⟨rfl, _⟩ := code_num.1 h1
    obtain ⟨rfl, _⟩ := code_num.1 h2
    simp [tkVote, tkNum, a1, a2]
  · intro x i j ht
    simp only [tkVote, Option.bind_eq_some_iff] at ht
    obtain ⟨⟨c, k1⟩, h1, ⟨t, k2⟩, h2, h7⟩ := ht
    injection h7 with h7
    injection h7 with h7 h8
    subst h7; subst h8
    obtain ⟨a1, b1, c1⟩ := (tells_num hz).back h1
    obtain ⟨a2, b2, c2⟩ := (tells_num hz).back h2
    exact ⟨a1 ++ a2, codes_app_some (l := [_]) b1 b2, At.app.2 ⟨_, c1, c2⟩⟩
theorem tells_batch (hz : ∀ z ∈ zs, 0 ≤ z ∧ z ≤ 255) : Tells zs (tkBatch zs) (listToks Rq.toks) := tells_list (tells_req hz)
theorem tells_votes (hz : ∀ z ∈ zs, 0 ≤ z ∧ z ≤ 255) : Tells zs (tkVotes zs) (listToks Vt.toks) := tells_list (tells_vote hz)
theorem tells_cert (hz : ∀ z ∈ zs, 0 ≤ z ∧ z ≤ 255) : Tells zs (tkCert zs) Ct.toks := by
  constructor
  · rintro ⟨c, t, q, b, o⟩ ns i j hc ha
    simp only [Ct.toks, codes_cons, codes_app_iff] at hc
    obtain ⟨n1, _, h1, ⟨n2, _, h2, ⟨n3, _, h3, ⟨m4, m5, h4, h5, rfl⟩, rfl⟩, rfl⟩, rfl⟩ := hc
    obtain ⟨k1, a1, k2, a2, k3, a3, a4⟩ := ha
    obtain ⟨k4, a4, a5⟩ := At.app.1 a4
    obtain ⟨rfl, _⟩ := code_num.1 h1
    obtain ⟨rfl, _⟩ := code_num.1 h2
    obtain ⟨rfl, _⟩ := code_num.1 h3
    simp [tkCert, tkNum, a1, a2, a3, (tells_batch hz).fwd h4 a4, (tells_votes hz).fwd h5 a5]
  · intro x i j ht
    simp only [tkCert, Option.bind_eq_some_iff] at ht
    obtain ⟨⟨c, k1⟩, h1, ⟨t, k2⟩, h2, ⟨q, k3⟩, h3, ⟨b, k4⟩, h4, ⟨o, k5⟩, h5, h7⟩ := ht
    injection h7 with h7
    injection h7 with h7 h8
    subst h7; subst h8
    obtain ⟨a1, b1, c1⟩ := (tells_num hz).back h1
    obtain ⟨a2, b2, c2⟩ := (tells_num hz).back h2
    obtain ⟨a3, b3, c3⟩ := (tells_num hz).back h3
    obtain ⟨a4, b4, c4⟩ := (tells_batch hz).back h4
    obtain ⟨a5, b5, c5⟩ := (tells_votes hz).back h5
    exact ⟨a1 ++ (a2 ++ (a3 ++ (a4 ++ a5))), codes_app_some (l := [_]) b1 (codes_app_some (l := [_]) b2 (codes_app_some (l := [_]) b3 (codes_app_some b4 b5))),
      At.app.2 ⟨_, c1, At.app.2 ⟨_, c2, At.app.2 ⟨_, c3, At.app.2 ⟨_, c4, c5⟩⟩⟩⟩⟩
theorem tells_certs (hz : ∀ z ∈ zs, 0 ≤ z ∧ z ≤ 255) : Tells zs (tkCerts zs) (listToks Ct.toks) := tells_list (tells_cert hz)
theorem tells_part (hz : ∀ z ∈ zs, 0 ≤ z ∧ z ≤ 255) : Tells zs (tkPart zs) Pt.toks := by
  constructor
  · rintro ⟨c, o, b, s⟩ ns i j hc ha
    simp only [Pt.toks, codes_cons, codes_app_iff] at hc
    obtain ⟨n1, _, h1, ⟨m4, _, h4, ⟨m5, _, h5, ⟨n6, r, h6, h7, rfl⟩, rfl⟩, rfl⟩, rfl⟩ := hc
    simp [codes] at h7; subst h7
    obtain ⟨k1, a1, a4⟩ := ha
    obtain ⟨k4, c4, a5⟩ := At.app.1 a4
    obtain ⟨k5, c5, k6, a6, rfl⟩ := At.app.1 a5
    obtain ⟨rfl, _⟩ := code_num.1 h1
    obtain ⟨rfl, _⟩ := code_num.1 h6
    simp [tkPart, tkNum, a1, (tells_votes hz).fwd h4 c4, (tells_certs hz).fwd h5 c5, a6]
  · intro x i j ht
    simp only [tkPart, Option.bind_eq_some_iff] at ht
    obtain ⟨⟨c, k1⟩, h1, ⟨o, k2⟩, h2, ⟨b, k3⟩, h3, ⟨s, k4⟩, h4, h7⟩ := ht
    injection h7 with h7
    injection h7 with h7 h8
    subst h7; subst h8
    obtain ⟨a1, b1, c1⟩ := (tells_num hz).back h1
    obtain ⟨a2, b2, c2⟩ := (tells_votes hz).back h2
    obtain ⟨a3, b3, c3⟩ := (tells_certs hz).back h3
    obtain ⟨a4, b4, c4⟩ := (tells_num hz).back h4
    exact ⟨a1 ++ (a2 ++ (a3 ++ a4)), codes_app_some (l := [_]) b1 (codes_app_some b2 (codes_app_some b3 b4)),
      At.app.2 ⟨_, c1, At.app.2 ⟨_, c2, At.app.2 ⟨_, c3, c4⟩⟩⟩⟩
theorem tells_parts (hz : ∀ z ∈ zs, 0 ≤ z ∧ z ≤ 255) : Tells zs (tkParts zs) (listToks Pt.toks) := tells_list (tells_part hz)
end
/-- What is written is bytes. -/
theorem bytesOf_u8 {l : List Tok} {bs : List Int} (h : bytesOf l = some bs) : ∀ z ∈ bs, 0 ≤ z ∧ z ≤ 255 := by
  simp only [bytesOf, Option.map_eq_some_iff] at h
  obtain ⟨ns, _, rfl⟩ := h
  exact flat_u8 ns
theorem bytesOf_len {l : List Tok} {bs : List Int} (h : bytesOf l = some bs) : bs.length ≤ 6 * l.length := by
  simp only [bytesOf, Option.map_eq_some_iff] at h
  obtain ⟨ns, h1, rfl⟩ := h
  have := flat_len ns (codes_small h1)
  rw [codes_len h1] at this
  exact this
theorem flat_ge : ∀ (ns : List Nat), ns.length ≤ (flat ns).length
  | [] => by simp [flat]
  | m :: l => by
    have h1 := enc_pos m
    have h2 := flat_ge l
    rw [flat_cons]
    simp; omega
section
variable {α : Type} {f : List Int → Tkr α} {g : α → List Tok}
/-- What is written is taken as itself (whatever stands behind it). -/
theorem taken (h : ∀ {zs}, (∀ z ∈ zs, 0 ≤ z ∧ z ≤ 255) → Tells zs (f zs) g) {x : α} {bs : List Int} (hb : bytesOf (g x) = some bs) (post : List Int) (hp : ∀ z ∈ post, 0 ≤ z ∧ z ≤ 255) :
    f (bs ++ post) 0 = some (x, (bs.length : Int)) := by
  have hu := bytesOf_u8 hb
  simp only [bytesOf, Option.map_eq_some_iff] at hb
  obtain ⟨ns, h1, rfl⟩ := hb
  have h2 := At.flat post ns [] (codes_small h1)
  simp only [List.nil_append, List.length_nil, Nat.zero_add] at h2
  exact (h fun z hz => (List.mem_append.1 hz).elim (hu z) (hp z)).fwd h1 h2
theorem taken0 (h : ∀ {zs}, (∀ z ∈ zs, 0 ≤ z ∧ z ≤ 255) → Tells zs (f zs) g) {x : α} {bs : List Int} (hb : bytesOf (g x) = some bs) : f bs 0 = some (x, (bs.length : Int)) := by
  have h1 := taken h hb [] (by simp)
  rwa [List.append_nil] at h1
/-- Unlike things have unlike bytes. -/
theorem unlike (h : ∀ {zs}, (∀ z ∈ zs, 0 ≤ z ∧ z ≤ 255) → Tells zs (f zs) g) {x y : α} {bs : List Int} (hb : bytesOf (g x) = some bs) (hc : bytesOf (g y) = some bs) : x = y := by
  have h1 := taken0 h hb
  rw [taken0 h hc] at h1
  injection h1 with h1
  injection h1 with h1 _
  exact h1.symm
/-- What is taken is written as just the bytes that it was taken from. -/
theorem taken_back (h : ∀ {zs}, (∀ z ∈ zs, 0 ≤ z ∧ z ≤ 255) → Tells zs (f zs) g) {zs : List Int} (hz : ∀ z ∈ zs, 0 ≤ z ∧ z ≤ 255) {x : α} {p : Nat} {j : Int} (hp : p ≤ zs.length) (ht : f zs p = some (x, j)) :
    ∃ q : Nat, j = q ∧ p ≤ q ∧ q ≤ zs.length ∧ bytesOf (g x) = some ((zs.drop p).take (q - p)) ∧ (g x).length ≤ q - p := by
  obtain ⟨ns, h1, h2⟩ := (h hz).back ht
  obtain ⟨q, h3, h4, h5, h6, h7⟩ := h2.bytes hz hp
  exact ⟨q, h3, h4, h5, by simp [bytesOf, h1, h6], by rw [codes_len h1] at h7; omega⟩
/-- Bytes that are cut are taken as nothing. -/
theorem cut_none (h : ∀ {zs}, (∀ z ∈ zs, 0 ≤ z ∧ z ≤ 255) → Tells zs (f zs) g) {x : α} {bs : List Int} (hb : bytesOf (g x) = some bs) {k : Nat} (hk : k < bs.length) : f (bs.take k) 0 = none := by
  have hu := bytesOf_u8 hb
  have hc : ∀ z ∈ bs.take k, 0 ≤ z ∧ z ≤ 255 := fun z hz => hu z (List.mem_of_mem_take hz)
  rcases ht : f (bs.take k) 0 with _ | ⟨y, j⟩
  · rfl
  · exfalso
    obtain ⟨ns, h1, h2⟩ := (h hc).back ht
    obtain ⟨q, h3, _, h5, _⟩ := At.bytes (p := 0) hc h2 (Nat.zero_le _)
    have h4 := h2.more (bs.drop k)
    rw [List.take_append_drop] at h4
    have h6 := (h hu).fwd h1 h4
    rw [taken0 h hb] at h6
    injection h6 with h6
    injection h6 with _ h6
    simp at h5
    omega
/-- Nothing is taken at a place that is not there. -/
theorem first_num {zs : List Int} (hz : ∀ z ∈ zs, 0 ≤ z ∧ z ≤ 255) {t : Tok} {l : List Tok} {ns : List Nat} {i j : Int} (h : codes (t :: l) = some ns) (ha : At zs i ns j) : ∃ p : Nat, i = p ∧ p < zs.length := by
  obtain ⟨n, r, _, _, rfl⟩ := codes_cons.1 h
  obtain ⟨k, h1, _⟩ := ha
  rcases tk_cases zs i hz with ⟨h2, _⟩ | ⟨m, p, q, h2, _, _, h3, h4, _⟩
  · rw [h2] at h1; cases h1
  · exact ⟨p, h2, by omega⟩
end
end Go.Proofs.Ytcebnmhkbhhfiaa
