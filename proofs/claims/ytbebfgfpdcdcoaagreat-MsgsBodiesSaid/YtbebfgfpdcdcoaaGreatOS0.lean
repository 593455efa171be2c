/- Plain lists: the bytes of a number (enc), and the number that stands in a list (dec). Nothing of the program. -/
import Derived.Test.YtbebfgfpdcdcoaaGreatRows
import Derived.WalkKit
import Derived.WalkSpells
import Derived.WalkLawsBesides
import Derived.Deep.AppendLies
import Derived.Laws.AppendOwnNone
import Derived.Lib.Hide
import Derived.Laws.OwnMore
import Derived.Laws.Rows
import Derived.Deep.Draws
import Derived.Deep.Slices
import Derived.Deep.Fields
import Derived.ChangeSame
import Derived.ProofKit
import Derived.OpenShut
import Derived.Deep.QuietTactic
import Derived.BigQuiet
import Derived.Scope
import Derived.WalkMore
import Derived.Lib.QuietBelow
import Derived.Maps.OwnSet
import Derived.DeepKeys4
import Derived.Laws.BytesArg
import Derived.IntWalk
import Derived.Tactics
import Derived.Tactics2
import Derived.Deep.DeepCutAuto
namespace Go.Proofs.YtbebfgfpdcdcoaaGreat

/-- The groups of m, with fuel. -/
def encF : Nat → Nat → List Int
  | 0, m => [(m : Int)]
  | f + 1, m => if m < 128 then [(m : Int)] else ((m % 128 + 128 : Nat) : Int) :: encF f (m / 128)
def enc (m : Nat) : List Int := encF m m
theorem encF_any (f : Nat) : ∀ g m, m ≤ f → m ≤ g → encF f m = encF g m := by
  induction f with
  | zero => intro g m h _; obtain rfl : m = 0 := by omega
            cases g <;> simp [encF]
  | succ f ih =>
    intro g m h1 h2
    cases g with
    | zero => obtain rfl : m = 0 := by omega
              simp [encF]
    | succ g =>
      unfold encF
      by_cases h : m < 128
      · simp [h]
      · simp only [if_neg h]
        rw [ih g (m / 128) (by omega) (by omega)]
theorem enc_small {m : Nat} (h : m < 128) : enc m = [(m : Int)] := by
  unfold enc
  cases m <;> simp [encF, h]
theorem enc_big {m : Nat} (h : 128 ≤ m) : enc m = ((m % 128 + 128 : Nat) : Int) :: enc (m / 128) := by
  unfold enc
  obtain ⟨k, rfl⟩ : ∃ k, m = k + 1 := ⟨m - 1, by omega⟩
  rw [encF, if_neg (by omega), encF_any k ((k + 1) / 128) ((k + 1) / 128) (by omega) (by omega)]
theorem enc_pos (m : Nat) : 0 < (enc m).length := by
  by_cases h : m < 128
  · simp [enc_small h]
  · simp [enc_big (by omega : 128 ≤ m)]
theorem enc_len (k : Nat) : ∀ m, m < 128 ^ (k + 1) → (enc m).length ≤ k + 1 := by
  induction k with
  | zero => intro m h; rw [enc_small (by omega)]; simp
  | succ k ih =>
    intro m h
    by_cases h1 : m < 128
    · rw [enc_small h1]; simp
    · rw [enc_big (by omega)]
      have := ih (m / 128) (by rw [Nat.div_lt_iff_lt_mul (by omega)]; rw [Nat.pow_succ] at h; exact h)
      simp; omega
theorem enc_bound (f : Nat) : ∀ m, m ≤ f → ∀ z ∈ enc m, 0 ≤ z ∧ z ≤ 255 := by
  induction f with
  | zero => intro m h z hz; rw [enc_small (by omega)] at hz; simp at hz; omega
  | succ f ih =>
    intro m h z hz
    by_cases h1 : m < 128
    · rw [enc_small h1] at hz; simp at hz; omega
    · rw [enc_big (by omega)] at hz
      rcases List.mem_cons.1 hz with rfl | hz
      · omega
      · exact ih _ (by omega) z hz

/-- The number whose groups stand at the head of a list, from shift s on, upon acc; and how many groups. -/
def dec : Nat → Int → List Int → Option (Int × Nat)
  | _, _, [] => none
  | s, acc, g :: l =>
    if 40 ≤ s then none
    else if g < 128 then (if (g = 0 ∧ 0 < s) ∨ 1099511627775 < acc + g * 2 ^ s then none else some (acc + g * 2 ^ s, 1))
    else (dec (s + 7) (acc + (g - 128) * 2 ^ s) l).map fun p => (p.1, p.2 + 1)
/-- What a taker answers that stands at place nx. -/
def res (s : Nat) (acc : Int) (nx : Nat) (l : List Int) : Int × Int × Bool :=
  match dec s acc l with
  | none => (0, 0, false)
  | some (n, k) => (n, (nx : Int) + k, true)
def takeS (l : List Int) (i : Int) : Int × Int × Bool := if i < 0 then (0, 0, false) else res 0 0 i.toNat (l.drop i.toNat)
theorem res_nil (s : Nat) (acc : Int) (nx : Nat) : res s acc nx [] = (0, 0, false) := rfl
theorem res_far {s : Nat} (acc : Int) (nx : Nat) (l : List Int) (h : 40 ≤ s) : res s acc nx l = (0, 0, false) := by
  cases l <;> simp [res, dec, h]
theorem res_last {s : Nat} {acc g : Int} {nx : Nat} {l : List Int} (h : s < 40) (hg : g < 128) :
    res s acc nx (g :: l) = if (g = 0 ∧ 0 < s) ∨ 1099511627775 < acc + g * 2 ^ s then (0, 0, false) else (acc + g * 2 ^ s, ((nx + 1 : Nat) : Int), true) := by
  simp only [res, dec, if_neg (by omega : ¬ 40 ≤ s), if_pos hg]
  split <;> rename_i h1
  · split at h1
    · rw [if_pos (by assumption)]
    · cases h1
  · split at h1
    · cases h1
    · rw [if_neg (by assumption)]
      injection h1 with h1
      injection h1 with h1 h2
      subst h1; subst h2; rfl
theorem res_more {s : Nat} {acc g : Int} {nx : Nat} {l : List Int} (h : s < 40) (hg : 128 ≤ g) :
    res s acc nx (g :: l) = res (s + 7) (acc + (g - 128) * 2 ^ s) (nx + 1) l := by
  simp only [res, dec, if_neg (by omega : ¬ 40 ≤ s), if_neg (by omega : ¬ g < 128)]
  cases dec (s + 7) (acc + (g - 128) * 2 ^ s) l with
  | none => rfl
  | some p => simp; omega

theorem pow_pos' (s : Nat) : (1 : Int) ≤ 2 ^ s := by
  have := Nat.pow_pos (n := s) (show 0 < 2 by omega)
  exact_mod_cast this
theorem shift_lt {s : Nat} (h : (2 : Int) ^ s ≤ 1099511627775) : s < 40 := by
  rcases Nat.lt_or_ge s 40 with h1 | h1
  · exact h1
  · exfalso
    have h2 : (2 : Int) ^ 40 ≤ 2 ^ s := by
      have := Nat.pow_le_pow_right (n := 2) (by omega) h1
      exact_mod_cast this
    omega
/-- What is written is taken. -/
theorem dec_enc (post : List Int) (f : Nat) : ∀ (m s : Nat) (acc : Int), m ≤ f → 0 ≤ acc → (m = 0 → s = 0) → acc + (m : Int) * 2 ^ s ≤ 1099511627775 →
    dec s acc (enc m ++ post) = some (acc + (m : Int) * 2 ^ s, (enc m).length) := by
  induction f with
  | zero =>
    intro m s acc hm _ hz ht
    obtain rfl : m = 0 := by omega
    obtain rfl : s = 0 := hz rfl
    have h0 : acc ≤ 1099511627775 := by simpa using ht
    rw [enc_small (by omega)]
    simp [dec]; omega
  | succ f ih =>
    intro m s acc hm ha hz ht
    have hp := pow_pos' s
    by_cases h0 : m = 0
    · subst h0
      obtain rfl : s = 0 := hz rfl
      have h0 : acc ≤ 1099511627775 := by simpa using ht
      rw [enc_small (by omega)]
      simp [dec]; omega
    have hle : (2 : Int) ^ s ≤ (m : Int) * 2 ^ s := by
      have h1 : (1 : Int) * 2 ^ s ≤ (m : Int) * 2 ^ s := Int.mul_le_mul_of_nonneg_right (by omega) (by omega)
      omega
    have hs := shift_lt (s := s) (by omega)
    by_cases h : m < 128
    · rw [enc_small h]
      simp only [List.cons_append, List.nil_append, dec]
      rw [if_neg (by omega), if_pos (by omega), if_neg (by omega)]
      rfl
    · rw [enc_big (by omega)]
      simp only [List.cons_append, dec]
      rw [if_neg (by omega), if_neg (by omega)]
      have e : acc + (((m % 128 + 128 : Nat) : Int) - 128) * 2 ^ s + ((m / 128 : Nat) : Int) * 2 ^ (s + 7) = acc + (m : Int) * 2 ^ s := by
        have e1 : (m : Int) = ((m / 128 : Nat) : Int) * 128 + ((m % 128 : Nat) : Int) := by omega
        have e2 : (((m % 128 + 128 : Nat) : Int) - 128) = ((m % 128 : Nat) : Int) := by omega
        rw [e2, Int.pow_add, show (2 : Int) ^ 7 = 128 from rfl]
        conv => rhs; rw [e1]
        rw [Int.add_mul, Int.mul_assoc, Int.mul_comm 128 (2 ^ s)]
        omega
      have hnn : 0 ≤ (((m % 128 + 128 : Nat) : Int) - 128) * 2 ^ s := Int.mul_nonneg (by omega) (by omega)
      rw [ih (m / 128) (s + 7) _ (by omega) (by omega) (by omega) (by rw [e]; exact ht), e]
      simp
/-- A number that is written at a place is taken there. -/
theorem takeS_enc (pre post : List Int) (m : Nat) (hm : m < 1099511627776) : takeS (pre ++ (enc m ++ post)) pre.length = ((m : Int), (pre.length : Int) + (enc m).length, true) := by
  unfold takeS
  rw [if_neg (by omega), show ((pre.length : Int)).toNat = pre.length from rfl, List.drop_left]
  unfold res
  rw [dec_enc post m m 0 0 (Nat.le_refl _) (by omega) (fun _ => rfl) (by simp; omega)]
  simp
theorem takeS_enc0 (m : Nat) (hm : m < 1099511627776) : takeS (enc m) 0 = ((m : Int), ((enc m).length : Int), true) := by
  have h := takeS_enc [] [] m hm
  simpa using h
/-- No number's groups are the beginning of another one's. -/
theorem enc_begins {m n : Nat} (hm : m < 1099511627776) (hn : n < 1099511627776) (h : enc m <+: enc n) : m = n := by
  obtain ⟨post, hp⟩ := h
  have h1 := takeS_enc [] post m hm
  have h2 := takeS_enc0 n hn
  rw [← hp] at h2
  simp only [List.nil_append, List.length_nil] at h1
  rw [show ((0 : Nat) : Int) = 0 from rfl, h2] at h1
  injection h1 with h3 _
  omega
theorem enc_unlike {m n : Nat} (hm : m < 1099511627776) (hn : n < 1099511627776) (hne : m ≠ n) :
    (enc m).take (min (enc m).length (enc n).length) ≠ (enc n).take (min (enc m).length (enc n).length) := by
  intro h
  rcases Nat.le_total (enc m).length (enc n).length with hl | hl
  · rw [Nat.min_eq_left hl, List.take_length] at h
    exact hne (enc_begins hm hn (h ▸ List.take_prefix _ _))
  · rw [Nat.min_eq_right hl, List.take_length] at h
    exact hne (enc_begins hn hm (h ▸ List.take_prefix _ _)).symm
/-- What is taken is written as just the bytes that it was taken from. -/
theorem dec_back : ∀ (l : List Int) (s : Nat) (acc n : Int) (k : Nat), (∀ z ∈ l, 0 ≤ z ∧ z ≤ 255) → dec s acc l = some (n, k) →
    ∃ m : Nat, n = acc + (m : Int) * 2 ^ s ∧ l.take k = enc m ∧ k ≤ l.length ∧ 1 ≤ k ∧ (m = 0 → s = 0) ∧ n ≤ 1099511627775
  | [], s, acc, n, k, _, h => by simp [dec] at h
  | g :: l, s, acc, n, k, hz, h => by
    have hg := hz g (List.mem_cons_self ..)
    simp only [dec] at h
    by_cases hs : 40 ≤ s
    · rw [if_pos hs] at h; cases h
    rw [if_neg hs] at h
    by_cases h1 : g < 128
    · rw [if_pos h1] at h
      by_cases h2 : (g = 0 ∧ 0 < s) ∨ 1099511627775 < acc + g * 2 ^ s
      · rw [if_pos h2] at h; cases h
      · rw [if_neg h2] at h
        injection h with h
        injection h with h3 h4
        subst h3; subst h4
        refine ⟨g.toNat, ?_, ?_, by simp, by omega, by omega, by omega⟩
        · rw [Int.toNat_of_nonneg hg.1]
        · rw [enc_small (by omega)]
          simp; omega
    · rw [if_neg h1] at h
      rw [Option.map_eq_some_iff] at h
      obtain ⟨⟨n', k'⟩, hd, he⟩ := h
      injection he with h3 h4
      subst h3; subst h4
      obtain ⟨m, e1, e2, e3, e4, e5, e6⟩ := dec_back l (s + 7) _ n' k' (fun z hzz => hz z (List.mem_cons_of_mem _ hzz)) hd
      have hm : m ≠ 0 := fun h0 => by have := e5 h0; omega
      refine ⟨(g - 128).toNat + 128 * m, ?_, ?_, by simp; omega, by omega, by omega, e6⟩
      · rw [e1, Int.pow_add, show (2 : Int) ^ 7 = 128 from rfl]
        rw [show (((g - 128).toNat + 128 * m : Nat) : Int) = (g - 128) + (m : Int) * 128 by omega, Int.add_mul, Int.mul_assoc, Int.mul_comm 128 (2 ^ s)]
        omega
      · rw [enc_big (by omega), List.take_succ_cons, e2]
        congr 1
        · omega
        · congr 1
          omega
theorem takeS_cases (l : List Int) (i : Int) (hz : ∀ z ∈ l, 0 ≤ z ∧ z ≤ 255) :
    takeS l i = (0, 0, false) ∨ ∃ (m p q : Nat), i = p ∧ takeS l i = ((m : Int), (q : Int), true) ∧ p < q ∧ q ≤ l.length ∧ m < 1099511627776 ∧ (l.drop p).take (q - p) = enc m := by
  unfold takeS
  by_cases h : i < 0
  · rw [if_pos h]; exact Or.inl rfl
  · rw [if_neg h]
    obtain ⟨p, rfl⟩ := Int.eq_ofNat_of_zero_le (show 0 ≤ i by omega)
    rw [show ((p : Int)).toNat = p from rfl]
    unfold res
    rcases hd : dec 0 0 (l.drop p) with _ | ⟨n, k⟩
    · exact Or.inl rfl
    · obtain ⟨m, e1, e2, e3, e4, _, e6⟩ := dec_back _ 0 0 n k (fun z hzz => hz z (List.mem_of_mem_drop hzz)) hd
      have e7 : n = m := by simpa using e1
      subst e7
      have e8 : k ≤ l.length - p := by simpa using e3
      exact Or.inr ⟨m, p, p + k, rfl, rfl, by omega, by omega, by omega, by rw [Nat.add_sub_cancel_left]; exact e2⟩
/-- Numbers one behind the other. -/
def flat (ns : List Nat) : List Int := ns.flatMap enc
theorem flat_app (l m : List Nat) : flat (l ++ m) = flat l ++ flat m := by simp [flat]
theorem flat_cons (m : Nat) (l : List Nat) : flat (m :: l) = enc m ++ flat l := rfl
theorem flat_len : ∀ (ns : List Nat), (∀ m ∈ ns, m < 1099511627776) → (flat ns).length ≤ 6 * ns.length
  | [], _ => by simp [flat]
  | m :: l, h => by
    have h1 := enc_len 5 m (by have := h m (List.mem_cons_self ..); omega)
    have h2 := flat_len l fun k hk => h k (List.mem_cons_of_mem _ hk)
    rw [flat_cons]
    simp; omega
theorem flat_u8 (ns : List Nat) : ∀ z ∈ flat ns, 0 ≤ z ∧ z ≤ 255 := fun z hz => by
  obtain ⟨m, _, hm⟩ := List.mem_flatMap.1 hz
  exact enc_bound m m (Nat.le_refl _) z hm
theorem take_more {α : Type} {l r : List α} {j : Nat} {x : α} (h : l.drop j = x :: r) : l.take (j + 1) = l.take j ++ [x] ∧ j < l.length := by
  have hj : j < l.length := by
    rcases Nat.lt_or_ge j l.length with h1 | h1
    · exact h1
    · rw [List.drop_eq_nil_of_le h1] at h; cases h
  rw [List.drop_eq_getElem_cons hj] at h
  injection h with h1 _
  exact ⟨by rw [List.take_succ_eq_append_getElem hj, h1], hj⟩
theorem flat_at {ns r : List Nat} {j m : Nat} (h : ns.drop j = m :: r) (hm : m < 1099511627776) :
    takeS (flat ns) ((flat (ns.take j)).length : Int) = ((m : Int), ((flat (ns.take (j + 1))).length : Int), true) ∧ (flat (ns.take j)).length < (flat (ns.take (j + 1))).length := by
  have h1 := (take_more h).1
  have h2 : flat ns = flat (ns.take j) ++ (enc m ++ flat r) := by
    conv => lhs; rw [← List.take_append_drop j ns, h]
    rw [flat_app, flat_cons]
  have h3 := takeS_enc (flat (ns.take j)) (flat r) m hm
  rw [← h2] at h3
  have h4 : (flat (ns.take (j + 1))).length = (flat (ns.take j)).length + (enc m).length := by
    rw [h1, flat_app, flat_cons]; simp [flat]
  have h5 := enc_pos m
  rw [h3, h4]
  exact ⟨by simp, by omega⟩
end Go.Proofs.YtbebfgfpdcdcoaaGreat
/- Words on memory: a slice value that reads as a list of one-cell values ('Has'); what keeps it. -/
namespace Go.Proofs.YtbebfgfpdcdcoaaGreat
open Go.RowKit

/-- The slice at A reads as xs, each value one cell, in a block below B. -/
def Has (w : World) (B : Nat) (A : Option Addr) (xs : List Value) : Prop :=
  ∀ j u, xs[j]? = some u → ∃ ad, A = some ad ∧ ad.block < B ∧ w.cell? (ad.add j) = some u

def u8s (l : List Int) : List Value := l.map (Value.int .u8)
theorem u8s_len (l : List Int) : (u8s l).length = l.length := by simp [u8s]
theorem u8s_app (l m : List Int) : u8s (l ++ m) = u8s l ++ u8s m := by simp [u8s]
theorem u8s_get (l : List Int) (j : Nat) (h : j < l.length) : (u8s l)[j]? = some (.int .u8 (l.getD j 0)) := by
  simp [u8s, List.getElem?_map, List.getElem?_eq_getElem h]

theorem addr_block (a : Addr) (n : Nat) : (a.add n).block = a.block := by
  cases n with
  | zero => rfl
  | succ n => rfl

theorem addr_at (g i : Nat) : (⟨g, 0, none⟩ : Addr).add i = ⟨g, i, none⟩ := by
  cases i <;> simp [Addr.add]

section
variable {w w' : World} {B B' : Nat} {A : Option Addr} {xs : List Value}
theorem Has.nil (w : World) (B : Nat) (A : Option Addr) : Has w B A [] := fun j u h => by simp at h
theorem Has.more (h : Has w B A xs) (hB : B ≤ B') : Has w B' A xs := fun j u hj => by
  obtain ⟨ad, e, hb, hc⟩ := h j u hj
  exact ⟨ad, e, by omega, hc⟩
theorem Has.below (h : Has w B A xs) (hb : Below B' w w') (hB : B ≤ B') : Has w' B A xs := fun j u hj => by
  obtain ⟨ad, e, hlt, hc⟩ := h j u hj
  exact ⟨ad, e, hlt, (hb.cell (by rw [addr_block]; omega)).trans hc⟩
theorem Has.at (h : Has w B A xs) {k : Nat} (hk : k < xs.length) : ∃ ad, A = some ad ∧ ad.block < B ∧ w.cell? (ad.add k) = some xs[k] :=
  h k _ (List.getElem?_eq_getElem hk)
theorem Has.own {base n c : Nat} {e : TypeId} (h : w.ownsRow base e 1 (.slice A n c) n xs) : Has w w.heap.size A xs := fun j u hj => by
  have hn : 0 < n := by
    have := h.1
    have hl : j < xs.length := (List.getElem?_eq_some_iff.1 hj).1
    omega
  obtain ⟨g, cap, hv, _, hlt⟩ := h.form hn
  have hA : A = some ⟨g, 0, none⟩ := by injection hv
  subst hA
  exact ⟨_, rfl, hlt, h.cells (g := g) rfl j u hj⟩
theorem Has.fresh (w : World) (cs : Array Value) (t : TypeId) : Has (w.alloc (.cells cs t)) (w.heap.size + 1) (some ⟨w.heap.size, 0, none⟩) cs.toList := fun j u hj => by
  refine ⟨_, rfl, Nat.lt_succ_self _, World.news_of_block (cs := cs) (t := t) (fr := (0, 0)) ?_ j u hj⟩
  show (w.heap.push _)[w.heap.size]? = _
  simp
end
theorem Has.take {w : World} {B : Nat} {A : Option Addr} {zs : List Int} (h : Has w B A (u8s zs)) (k : Nat) : Has w B A (u8s (zs.take k)) := fun j u hj => by
  refine h j u ?_
  unfold u8s at hj ⊢
  rw [List.map_take, List.getElem?_take] at hj
  split at hj
  · exact hj
  · cases hj
theorem Has.drew {w : World} {B : Nat} {A : Option Addr} {xs : List Value} (h : Has w B A xs) : Has w.drew B A xs := h
theorem Has.drewN {w : World} {B : Nat} {A : Option Addr} {xs : List Value} (h : Has w B A xs) (n : Nat) : Has (w.drewN n) B A xs := h
theorem addr_add (a : Addr) (i j : Nat) : (a.add i).add j = a.add (i + j) := by
  cases i with
  | zero => simp [Addr.add]
  | succ i =>
    cases j with
    | zero => rfl
    | succ j => simp [Addr.add]; omega
/-- A part of it. -/
theorem Has.cut {w : World} {B : Nat} {ad : Addr} {zs : List Int} (h : Has w B (some ad) (u8s zs)) (p k : Nat) : Has w B (some (ad.add p)) (u8s ((zs.drop p).take k)) := fun j u hj => by
  have hj2 : (u8s zs)[p + j]? = some u := by
    unfold u8s at hj ⊢
    rw [List.map_take, List.map_drop, List.getElem?_take] at hj
    split at hj
    · rwa [List.getElem?_drop] at hj
    · cases hj
  obtain ⟨ad', hA, hb, hc⟩ := h (p + j) u hj2
  cases hA
  exact ⟨_, rfl, by rw [addr_block]; exact hb, by rw [addr_add]; exact hc⟩
/-- A slice that came in, as a list of numbers of one kind. -/
structure IsList (k : IntKind) (w : World) (A : Option Addr) (zs : List Int) (c : Nat) : Prop where
  le : zs.length ≤ c
  most : c ≤ maxLen
  has : Has w w.heap.size A (zs.map (Value.int k))
  fits : ∀ z ∈ zs, (Lit.int k z).wf = true
  nil : A = none → c = 0
theorem block_lt {w : World} {p : Addr} {u : Value} (h : w.cell? p = some u) : p.block < w.heap.size := by
  rcases Nat.lt_or_ge p.block w.heap.size with h1 | h1
  · exact h1
  · have : w.heap[p.block]? = none := Array.getElem?_eq_none h1
    simp [World.cell?, this] at h
theorem has_rows {w : World} {base n c s : Nat} {e : TypeId} {A : Option Addr} {xs : List Value} (h : w.ownsRow base e s (.slice A n c) n xs) : Has w w.heap.size A xs := fun j u hj => by
  have hn : 0 < n := by
    rcases Nat.eq_zero_or_pos n with h0 | h0
    · subst h0
      have := h.1
      have hl : j < xs.length := (List.getElem?_eq_some_iff.1 hj).1
      omega
    · exact h0
  obtain ⟨g, cap, hv, _, hlt⟩ := h.form hn
  have hA : A = some ⟨g, 0, none⟩ := by injection hv
  subst hA
  exact ⟨_, rfl, hlt, h.cells (g := g) rfl j u hj⟩
theorem Has.tight {w : World} {B : Nat} {A : Option Addr} {xs : List Value} (h : Has w B A xs) : Has w w.heap.size A xs := fun j u hj => by
  obtain ⟨ad, e, _, hc⟩ := h j u hj
  have := block_lt hc
  rw [addr_block] at this
  exact ⟨ad, e, this, hc⟩
theorem IsList.none {k : IntKind} {w : World} : IsList k w Option.none [] 0 := ⟨Nat.le_refl _, Nat.zero_le _, Has.nil _ _ _, by simp, fun _ => rfl⟩
theorem IsList.row {k : IntKind} {w : World} {x : Addr} {l c : Nat} {zs : List Int} (hl : l ≤ c) (hm : c ≤ maxLen) (hz : zs.length = c)
    (hcell : ∀ i, i < zs.length → w.cell? (x.add i) = some (.int k (zs.getD i 0))) (hwz : ∀ n ∈ zs, (Lit.int k n).wf = true) : IsList k w (some x) (zs.take l) c := by
  refine ⟨by simp; omega, hm, fun j u hj => ?_, fun z h => hwz z (List.mem_of_mem_take h), fun h => by cases h⟩
  have hj1 : j < (zs.take l).length := by
    have := (List.getElem?_eq_some_iff.1 hj).1
    simpa using this
  have hj2 : j < zs.length := by simp at hj1; omega
  have h2 := hcell j hj2
  refine ⟨x, rfl, ?_, ?_⟩
  · have := block_lt h2; rwa [addr_block] at this
  · rw [h2, ← hj]
    simp [List.getElem?_take, List.getElem?_eq_getElem hj2]
    simp at hj1; omega
theorem wf_u8 {z : Int} (h : (Lit.int .u8 z).wf = true) : 0 ≤ z ∧ z ≤ 255 := by
  simp only [Lit.wf, Bool.and_eq_true, decide_eq_true_eq] at h
  exact h
theorem wf_i64 {z : Int} (h : (Lit.int .i64 z).wf = true) : -9223372036854775808 ≤ z ∧ z ≤ 9223372036854775807 := by
  simp only [Lit.wf, Bool.and_eq_true, decide_eq_true_eq] at h
  exact h
/-- A number of it, of whatever kind. -/
theorem Has.int {w : World} {B : Nat} {A : Option Addr} {k : IntKind} {zs : List Int} (h : Has w B A (zs.map (Value.int k))) {j : Nat} (hj : j < zs.length) :
    ∃ ad z, A = some ad ∧ ad.block < B ∧ w.cell? (ad.add j) = some (.int k z) ∧ zs.drop j = z :: zs.drop (j + 1) ∧ z ∈ zs := by
  obtain ⟨ad, hA, hb, hc⟩ := h.at (k := j) (by rw [List.length_map]; exact hj)
  exact ⟨ad, zs[j], hA, hb, by rw [hc]; simp, List.drop_eq_getElem_cons hj, List.getElem_mem hj⟩
/-- Rows of unlike element types lie in unlike blocks. -/
theorem own_apart {w : World} {b b' n n' s s' : Nat} {e e' : TypeId} {v v' : Value} {xs xs' : List Value} (h : w.ownsRow b e s v n xs) (h' : w.ownsRow b' e' s' v' n' xs') (hne : e ≠ e') :
    v.ownBlock = none ∨ v.ownBlock ≠ v'.ownBlock := by
  rcases h.2 with ⟨rfl, _⟩ | ⟨g, cap, cur, rfl, _, hg, _⟩
  · exact Or.inl rfl
  · refine Or.inr fun hb => ?_
    rcases h'.2 with ⟨rfl, _⟩ | ⟨g', cap', cur', rfl, _, hg', _⟩
    · cases hb
    · injection hb with hb
      have hb : g = g' := hb
      subst hb
      rw [hg] at hg'
      injection hg' with hg'
      injection hg' with _ he
      exact hne he
/-- A byte of it. -/
theorem Has.byte {w : World} {B : Nat} {A : Option Addr} {zs : List Int} (h : Has w B A (u8s zs)) {k : Nat} (hk : k < zs.length) :
    ∃ ad z, A = some ad ∧ ad.block < B ∧ w.cell? (ad.add k) = some (.int .u8 z) ∧ zs.drop k = z :: zs.drop (k + 1) ∧ z ∈ zs := by
  obtain ⟨ad, hA, hb, hc⟩ := h.at (k := k) (by rw [u8s_len]; exact hk)
  exact ⟨ad, zs[k], hA, hb, by rw [hc]; simp [u8s], List.drop_eq_getElem_cons hk, List.getElem_mem hk⟩
/-- A row that the call owns is a slice value. -/
theorem own_slice {w : World} {base n : Nat} {e : TypeId} {size : Nat} {v : Value} {xs : List Value} (h : w.ownsRow base e size v n xs) : ∃ A c, v = .slice A n c ∧ n ≤ c ∧ c ≤ maxLen := by
  rcases h.2 with ⟨rfl, rfl⟩ | ⟨g, cap, cur, rfl, _, _, h1, h2, _⟩
  · exact ⟨none, 0, rfl, Nat.le_refl _, by simp [maxLen]⟩
  · exact ⟨_, _, rfl, h1, h2⟩
theorem u8s_one (l : List Int) : ∀ u ∈ u8s l, u.oneCell' = true := by
  intro u hu
  obtain ⟨z, _, rfl⟩ := List.mem_map.1 hu
  rfl
/-- append of any slice of one-cell elements (nil too) to a row of the call's own. -/
theorem wpList_app {P : Program} {w : World} {ops : Array Oper} {rest : List Oper} {o : Oper} {a : Act} {Q : Exit → Act → World → Prop} (hgd : o.guard = none) (s x : Operand) (t : TypeId)
    (ho : o.op = .call { callee := .builtin .append, args := #[s, x], argTypes := #[t, t] })
    (base : Nat) (e : TypeId) (i : TypeInfo) (z : Value) (bytes : Nat) (ht : P.underlying t = some (.slice e)) (hi : P.info? e = some i) (hz : i.zero = some z)
    (hsize : i.size = 1) (hby : i.bytes = bytes) (hzs : z.cells.size = 1)
    (v : Value) (n : Nat) (xs : List Value) (hs : a.eval s = v) (hown : w.ownsRow base e 1 v n xs)
    (B : Nat) (A : Option Addr) (m c : Nat) (news : List Value) (hx : a.eval x = .slice A m c) (hl : news.length = m) (hh : Has w B A news) (hn : A = none → c = 0) (h1 : ∀ u ∈ news, u.oneCell' = true)
    (h63 : n + m ≤ maxLen) (hbytes : (n + m) * bytes ≤ 140737488355328) (hbase : base ≤ w.heap.size)
    (h : ∀ v' w', w'.ownsRow base e 1 v' (n + m) (xs ++ news) → w.grownBy w' v.ownBlock → Below base w w' → wpList P ops Q rest (a.put o.dst v') w') : wpList P ops Q (o :: rest) a w := by
  cases A with
  | none =>
    have hm : news = [] := by
      cases news with
      | nil => rfl
      | cons u r =>
        obtain ⟨_, hA, _⟩ := hh 0 u rfl
        cases hA
    subst hm
    obtain rfl : m = 0 := by simpa using hl.symm
    obtain rfl := hn rfl
    refine wpList_append_own_none hgd s x t ho base e i 1 ht hi v n xs hs hown hx (h v w ?_ (World.grownBy.refl w _) (Below.refl _ _))
    simpa using hown
  | some ad =>
    refine wpList_append_own w hgd s x t ho base e i z 1 bytes ht hi hz hsize hby hzs (by decide) v n xs hs hown ad m c news hx (by omega) (fun j u hu => ?_) h1 h63 hbytes hbase
      (fun v' w' h2 h3 _ => h v' w' h2 h3 ((Below.refl base w).grown h3 hbase (hown.lt · · |>.1)))
    obtain ⟨ad', hA, _, hc⟩ := hh j u hu
    cases hA
    exact hc
theorem below_own {w w' : World} {b n s : Nat} {e : TypeId} {v : Value} {xs : List Value} {B : Nat} (h : w.ownsRow b e s v n xs) (hb : Below B w w') (hB : w.heap.size ≤ B) : w'.ownsRow b e s v n xs := by
  refine ⟨h.1, ?_⟩
  rcases h.2 with h2 | ⟨g, cap, cur, hv, hg, hh, r⟩
  · exact Or.inl h2
  · have hlt : g < w.heap.size := by
      rcases Nat.lt_or_ge g w.heap.size with h3 | h3
      · exact h3
      · rw [Array.getElem?_eq_none h3] at hh; cases hh
    exact Or.inr ⟨g, cap, cur, hv, hg, (hb.block g (by omega)).trans hh, r⟩
end Go.Proofs.YtbebfgfpdcdcoaaGreat
/- The contracts of code.Number and of the document's own Number: for a number from 0 to 2^40 - 1 its groups, in a new row; else none. -/
namespace Go.Proofs.YtbebfgfpdcdcoaaGreat
open Go.RowKit

theorem Tryz.info5 : (Tryz.prog.info? 5).map (fun i => (i.zero, i.size, i.bytes)) = some (some (.int .u8 0), 1, 1) := by kernel_rfl

theorem Tryz.info3 : (Tryz.prog.info? 3).map (fun i => (i.zero, i.size, i.bytes)) = some (some (.int .i64 0), 1, 8) := by kernel_rfl

/-- What Number returns where there are bytes: a slice of the call's own that reads as the groups. -/
def NumPost (n : Nat) (w : World) (e : Ending) (w' : World) : Prop :=
  ∃ g c, e = .returned (.tuple #[.slice (some ⟨g, 0, none⟩) (enc n).length c, .bool true]) ∧
    w'.ownsRow w.heap.size 5 1 (.slice (some ⟨g, 0, none⟩) (enc n).length c) (enc n).length (u8s (enc n)) ∧ Below w.heap.size w w'
theorem NumPost.of {n : Nat} {w w' : World} {v : Value} (h : w'.ownsRow w.heap.size 5 1 v (enc n).length (u8s (enc n))) (hb : Below w.heap.size w w') :
    NumPost n w (.returned (.tuple #[v, .bool true])) w' := by
  obtain ⟨g, c, rfl, _, _⟩ := h.form (enc_pos n)
  exact ⟨g, c, rfl, h, hb⟩

set_option maxHeartbeats 400000 in
set_option maxRecDepth 100000 in
theorem number_own (n : Nat) (hn : n < 1099511627776) (w : World) :
    Calls Tryz.prog 70 #[.int .i64 n] w fun e w' => ∃ v, e = .returned (.tuple #[v, .bool true]) ∧
      w'.ownsRow w.heap.size 5 1 v (enc n).length (u8s (enc n)) ∧ Below w.heap.size w w' := by
  obtain ⟨i0, hi, hz0, hz1, hz2⟩ := info_parts Tryz.info5
  have hlen := enc_len 5 n (by omega)
  go_enter Tryz.func70, Tryz.ntmps70
  go_wp2
  go_loopw [0, 4] (fun x v wr => ∃ (m : Nat) (pre : List Int), x = .int .i64 m ∧ m < 1099511627776 ∧ Hid (pre ++ enc m = enc n) ∧ wr.ownsRow w.heap.size 5 1 v pre.length (u8s pre) ∧ Below w.heap.size w wr) (fun x _ _ => (intOf x).toNat)
  case atStart => exact ⟨n, [], rfl, hn, rfl, World.ownsRow_nil _ _ _ _, Below.refl _ _⟩
  case round =>
    obtain ⟨m, pre, rfl, hm, he, hown, hnx⟩ := hrel
    by_cases hlt : 128 ≤ m
    · have hpl : pre.length ≤ 6 := by have := congrArg List.length he.out; simp at this; omega
      have e1 := enc_big hlt
      have HE : Hid (pre ++ [((m % 128 + 128 : Nat) : Int)] ++ enc (m / 128) = enc n) := by show _ = enc n; rw [← he.out, e1]; simp
      clear e1
      go_wp2_with (at_builtin; refine wpList_append_own _ rfl _ _ 39 rfl w.heap.size 5 i0 (.int .u8 0) 1 1 Tryz.underlying39 hi hz0 hz1 hz2 rfl (by decide) _ _ _ rfl (hown.alloc _) ⟨wr.heap.size, 0, none⟩ 1 1 [.int .u8 (↑m % 128 + 128)] rfl rfl ?c1 ?c2 ?c3 ?c4 ?c5 ?_)
      case c1 => exact cell_one_new _ _ _
      case c2 => intro u hu; simp at hu; subst hu; rfl
      case c3 => unfold maxLen; omega
      case c4 => omega
      case c5 => have := hnx.size; simp; omega
      intro v' w1 hown1 hgrow _
      have hown2 : w1.ownsRow w.heap.size 5 1 v' (pre ++ [((m % 128 + 128 : Nat) : Int)]).length (u8s (pre ++ [((m % 128 + 128 : Nat) : Int)])) := by
        rw [u8s_app, List.length_append]; exact hown1
      have hb1 : Below w.heap.size w w1 := (hnx.alloc hnx.size _).grown hgrow (by have := hnx.size; simp; omega) (hown.lt · · |>.1)
      clear hown1 hgrow
      go_wp2
      go_roundw
      case rel => exact ⟨m / 128, _, by go_num, by omega, HE, hown2, hb1⟩
      case measure => simp [intOf]; omega
    · have hpl : pre.length ≤ 6 := by have := congrArg List.length he.out; simp at this; omega
      have e1 := enc_small (by omega : m < 128)
      have HE : Hid (pre ++ [(m : Int)] = enc n) := by show _ = enc n; rw [← he.out, e1]
      clear e1
      go_wp2_with (at_builtin; refine wpList_append_own _ rfl _ _ 39 rfl w.heap.size 5 i0 (.int .u8 0) 1 1 Tryz.underlying39 hi hz0 hz1 hz2 rfl (by decide) _ _ _ rfl (hown.alloc _) ⟨wr.heap.size, 0, none⟩ 1 1 [.int .u8 ↑m] rfl rfl ?c1 ?c2 ?c3 ?c4 ?c5 ?_)
      case c1 => exact cell_one_new _ _ _
      case c2 => intro u hu; simp at hu; subst hu; rfl
      case c3 => unfold maxLen; omega
      case c4 => omega
      case c5 => have := hnx.size; simp; omega
      intro v' w1 hown1 hgrow _
      have hown2 : w1.ownsRow w.heap.size 5 1 v' (pre ++ [(m : Int)]).length (u8s (pre ++ [(m : Int)])) := by
        rw [u8s_app, List.length_append]; exact hown1
      have hb1 : Below w.heap.size w w1 := (hnx.alloc hnx.size _).grown hgrow (by have := hnx.size; simp; omega) (hown.lt · · |>.1)
      clear hown1 hgrow
      rw [HE.out] at hown2
      go_wp2
      go_ret2
      exact ⟨v', rfl, hown2, hb1⟩

theorem number_row (n : Nat) (hn : n < 1099511627776) (w : World) : Calls Tryz.prog 70 #[.int .i64 n] w (NumPost n w) :=
  (number_own n hn w).mono fun _ _ ⟨_, he, ho, hb⟩ => by subst he; exact NumPost.of ho hb

set_option maxHeartbeats 400000 in
theorem number_none (n : Int) (hn : n < 0 ∨ 1099511627776 ≤ n) (w : World) :
    Calls Tryz.prog 70 #[.int .i64 n] w fun e w' => e = .returned (.tuple #[.slice none 0 0, .bool false]) ∧ w = w' := by
  by_cases h : n < 0
  · clear hn
    go_enter Tryz.func70, Tryz.ntmps70
    go_wp2
    go_ret2
    exact ⟨rfl, rfl⟩
  · have h1 : 0 ≤ n := by omega
    have h2 : 1099511627775 < n := by omega
    clear hn h
    go_enter Tryz.func70, Tryz.ntmps70
    go_wp2
    go_ret2
    exact ⟨rfl, rfl⟩

set_option maxHeartbeats 400000 in
set_option maxRecDepth 100000 in
theorem refnumber_own (n : Nat) (hn : n < 1099511627776) (w : World) :
    Calls Tryz.prog 24 #[.int .i64 n] w fun e w' => ∃ v, e = .returned (.tuple #[v, .bool true]) ∧
      w'.ownsRow w.heap.size 5 1 v (enc n).length (u8s (enc n)) ∧ Below w.heap.size w w' := by
  obtain ⟨i0, hi, hz0, hz1, hz2⟩ := info_parts Tryz.info5
  have hlen := enc_len 5 n (by omega)
  go_enter Tryz.func24, Tryz.ntmps24
  go_wp2
  go_loopw [0, 4] (fun x v wr => ∃ (m : Nat) (pre : List Int), x = .int .i64 m ∧ m < 1099511627776 ∧ Hid (pre ++ enc m = enc n) ∧ wr.ownsRow w.heap.size 5 1 v pre.length (u8s pre) ∧ Below w.heap.size w wr) (fun x _ _ => (intOf x).toNat)
  case atStart => exact ⟨n, [], rfl, hn, rfl, World.ownsRow_nil _ _ _ _, Below.refl _ _⟩
  case round =>
    obtain ⟨m, pre, rfl, hm, he, hown, hnx⟩ := hrel
    by_cases hlt : 128 ≤ m
    · have hpl : pre.length ≤ 6 := by have := congrArg List.length he.out; simp at this; omega
      have e1 : enc m = ((128 + m % 128 : Nat) : Int) :: enc (m / 128) := by rw [enc_big hlt, Nat.add_comm]
      have HE : Hid (pre ++ [((128 + m % 128 : Nat) : Int)] ++ enc (m / 128) = enc n) := by show _ = enc n; rw [← he.out, e1]; simp
      clear e1
      go_wp2_with (at_builtin; refine wpList_append_own _ rfl _ _ 39 rfl w.heap.size 5 i0 (.int .u8 0) 1 1 Tryz.underlying39 hi hz0 hz1 hz2 rfl (by decide) _ _ _ rfl (hown.alloc _) ⟨wr.heap.size, 0, none⟩ 1 1 [.int .u8 (128 + ↑m % 128)] rfl rfl ?c1 ?c2 ?c3 ?c4 ?c5 ?_)
      case c1 => exact cell_one_new _ _ _
      case c2 => intro u hu; simp at hu; subst hu; rfl
      case c3 => unfold maxLen; omega
      case c4 => omega
      case c5 => have := hnx.size; simp; omega
      intro v' w1 hown1 hgrow _
      have hown2 : w1.ownsRow w.heap.size 5 1 v' (pre ++ [((128 + m % 128 : Nat) : Int)]).length (u8s (pre ++ [((128 + m % 128 : Nat) : Int)])) := by
        rw [u8s_app, List.length_append]; exact hown1
      have hb1 : Below w.heap.size w w1 := (hnx.alloc hnx.size _).grown hgrow (by have := hnx.size; simp; omega) (hown.lt · · |>.1)
      clear hown1 hgrow
      go_wp2
      go_roundw
      case rel => exact ⟨m / 128, _, by go_num, by omega, HE, hown2, hb1⟩
      case measure => simp [intOf]; omega
    · have hpl : pre.length ≤ 6 := by have := congrArg List.length he.out; simp at this; omega
      have e1 := enc_small (by omega : m < 128)
      have HE : Hid (pre ++ [(m : Int)] = enc n) := by show _ = enc n; rw [← he.out, e1]
      clear e1
      go_wp2_with (at_builtin; refine wpList_append_own _ rfl _ _ 39 rfl w.heap.size 5 i0 (.int .u8 0) 1 1 Tryz.underlying39 hi hz0 hz1 hz2 rfl (by decide) _ _ _ rfl (hown.alloc _) ⟨wr.heap.size, 0, none⟩ 1 1 [.int .u8 ↑m] rfl rfl ?c1 ?c2 ?c3 ?c4 ?c5 ?_)
      case c1 => exact cell_one_new _ _ _
      case c2 => intro u hu; simp at hu; subst hu; rfl
      case c3 => unfold maxLen; omega
      case c4 => omega
      case c5 => have := hnx.size; simp; omega
      intro v' w1 hown1 hgrow _
      have hown2 : w1.ownsRow w.heap.size 5 1 v' (pre ++ [(m : Int)]).length (u8s (pre ++ [(m : Int)])) := by
        rw [u8s_app, List.length_append]; exact hown1
      have hb1 : Below w.heap.size w w1 := (hnx.alloc hnx.size _).grown hgrow (by have := hnx.size; simp; omega) (hown.lt · · |>.1)
      clear hown1 hgrow
      rw [HE.out] at hown2
      go_wp2
      go_ret2
      exact ⟨v', rfl, hown2, hb1⟩

theorem refnumber_row (n : Nat) (hn : n < 1099511627776) (w : World) : Calls Tryz.prog 24 #[.int .i64 n] w (NumPost n w) :=
  (refnumber_own n hn w).mono fun _ _ ⟨_, he, ho, hb⟩ => by subst he; exact NumPost.of ho hb

set_option maxHeartbeats 400000 in
theorem refnumber_none (n : Int) (hn : n < 0 ∨ 1099511627776 ≤ n) (w : World) :
    Calls Tryz.prog 24 #[.int .i64 n] w fun e w' => e = .returned (.tuple #[.slice none 0 0, .bool false]) ∧ w = w' := by
  by_cases h : n < 0
  · clear hn
    go_enter Tryz.func24, Tryz.ntmps24
    go_wp2
    go_ret2
    exact ⟨rfl, rfl⟩
  · have h1 : 0 ≤ n := by omega
    have h2 : 1099511627775 < n := by omega
    clear hn h
    go_enter Tryz.func24, Tryz.ntmps24
    go_wp2
    go_ret2
    exact ⟨rfl, rfl⟩

end Go.Proofs.YtbebfgfpdcdcoaaGreat
/- The contracts of code.signed, code.Zig, code.Zag and the document's own zig and zag: what each returns, for every int; the world is unchanged. -/
namespace Go.Proofs.YtbebfgfpdcdcoaaGreat
open Go.RowKit

def inS (n : Int) : Bool := decide (-549755813888 ≤ n ∧ n < 549755813888)
def zigS (n : Int) : Int := if -549755813888 ≤ n ∧ n < 549755813888 then (if n < 0 then -2 * n - 1 else 2 * n) else 0
def zagS (n : Int) : Int := if n < 0 ∨ 1099511627776 ≤ n then 0 else if n % 2 = 1 then -((n + 1) / 2) else n / 2
theorem inS_true {n : Int} (h1 : -549755813888 ≤ n) (h2 : n < 549755813888) : inS n = true := by simp [inS, h1, h2]
theorem inS_low {n : Int} (h1 : n < -549755813888) : inS n = false := by simp [inS]; omega
theorem inS_high {n : Int} (h1 : 549755813888 ≤ n) : inS n = false := by simp [inS]; omega

set_option maxHeartbeats 400000 in
theorem signed_any (n : Int) (w : World) :
    Calls Tryz.prog 136 #[.int .i64 n] w fun e w' => e = .returned (.bool (inS n)) ∧ w = w' := by
  by_cases h1 : -549755813888 ≤ n
  · by_cases h2 : n < 549755813888
    · rw [inS_true h1 h2]
      go_enter Tryz.func136, Tryz.ntmps136
      go_wp2
      go_ret
      exact ⟨rfl, rfl⟩
    · rw [inS_high (by omega)]
      have h2' : 549755813888 ≤ n := by omega
      go_enter Tryz.func136, Tryz.ntmps136
      go_wp2
      go_ret
      exact ⟨by simp, rfl⟩
  · rw [inS_low (by omega)]
    have h1' : n < -549755813888 := by omega
    go_enter Tryz.func136, Tryz.ntmps136
    go_wp2
    go_ret
    exact ⟨by simp, rfl⟩

set_option maxHeartbeats 400000 in
theorem zig_any (n : Int) (w : World) :
    Calls Tryz.prog 137 #[.int .i64 n] w fun e w' => e = .returned (.int .i64 (zigS n)) ∧ w = w' := by
  by_cases h : -549755813888 ≤ n ∧ n < 549755813888
  · have e1 : inS n = true := inS_true h.1 h.2
    obtain ⟨h1, h2⟩ := h
    by_cases h3 : n < 0
    · have e2 : zigS n = -2 * n - 1 := by simp [zigS, h1, h2, h3]
      rw [e2]
      go_enter Tryz.func137, Tryz.ntmps137
      go_wp2_with (go_at_call 136; refine (signed_any _ _).mono ?_; rintro e w' ⟨rfl, rfl⟩)
      go_ret
      exact ⟨rfl, rfl⟩
    · have e2 : zigS n = 2 * n := by simp [zigS, h1, h2, h3]
      rw [e2]
      go_enter Tryz.func137, Tryz.ntmps137
      go_wp2_with (go_at_call 136; refine (signed_any _ _).mono ?_; rintro e w' ⟨rfl, rfl⟩)
      go_ret
      exact ⟨rfl, rfl⟩
  · have e1 : inS n = false := by simp only [inS, h, decide_false]
    have e2 : zigS n = 0 := by simp only [zigS, if_neg h]
    clear h
    rw [e2]
    go_enter Tryz.func137, Tryz.ntmps137
    go_wp2_with (go_at_call 136; refine (signed_any _ _).mono ?_; rintro e w' ⟨rfl, rfl⟩)
    go_ret
    exact ⟨rfl, rfl⟩

set_option maxHeartbeats 400000 in
theorem zag_any (n : Int) (w : World) :
    Calls Tryz.prog 176 #[.int .i64 n] w fun e w' => e = .returned (.int .i64 (zagS n)) ∧ w = w' := by
  by_cases h1 : n < 0
  · have e2 : zagS n = 0 := by simp [zagS, h1]
    rw [e2]
    go_enter Tryz.func176, Tryz.ntmps176
    go_wp2
    go_ret
    exact ⟨rfl, rfl⟩
  · have h1' : 0 ≤ n := by omega
    by_cases h2 : 1099511627775 < n
    · have e2 : zagS n = 0 := by simp [zagS]; omega
      rw [e2]
      go_enter Tryz.func176, Tryz.ntmps176
      go_wp2
      go_ret
      exact ⟨rfl, rfl⟩
    · have h2' : n ≤ 1099511627775 := by omega
      by_cases h3 : n % 2 = 1
      · have e2 : zagS n = -((n + 1) / 2) := by simp [zagS, h3]; omega
        rw [e2]
        go_enter Tryz.func176, Tryz.ntmps176
        go_wp2
        go_ret
        refine ⟨?_, rfl⟩
        show Ending.returned (.int .i64 (wrap64 (-((n + 1).tdiv 2)))) = _
        rw [Int.tdiv_eq_ediv_of_nonneg (by omega), IntWalk.wrap64_in _ ⟨by omega, by omega⟩]
      · have e2 : zagS n = n / 2 := by simp [zagS, h3]; omega
        rw [e2]
        go_enter Tryz.func176, Tryz.ntmps176
        go_wp2
        go_ret
        exact ⟨rfl, rfl⟩
end Go.Proofs.YtbebfgfpdcdcoaaGreat
/- The contract of code.Signed, and of the document's zig and zag. -/
namespace Go.Proofs.YtbebfgfpdcdcoaaGreat
open Go.RowKit

theorem zigS_in {n : Int} (h1 : -549755813888 ≤ n) (h2 : n < 549755813888) : 0 ≤ zigS n ∧ zigS n < 1099511627776 := by
  unfold zigS; rw [if_pos ⟨h1, h2⟩]; split <;> omega
theorem zagS_zig {n : Int} (h1 : -549755813888 ≤ n) (h2 : n < 549755813888) : zagS (zigS n) = n := by
  unfold zigS; rw [if_pos ⟨h1, h2⟩]; unfold zagS
  by_cases h : n < 0
  · rw [if_pos h, if_neg (by omega), if_pos (by omega)]; omega
  · rw [if_neg h, if_neg (by omega), if_neg (by omega)]; omega
theorem zigS_zag {n : Int} (h1 : 0 ≤ n) (h2 : n < 1099511627776) : zigS (zagS n) = n := by
  unfold zagS; rw [if_neg (by omega)]; unfold zigS
  by_cases h : n % 2 = 1
  · rw [if_pos h, if_pos (by omega), if_pos (by omega)]; omega
  · rw [if_neg h, if_pos (by omega), if_neg (by omega)]; omega

set_option maxHeartbeats 400000 in
theorem signum_row (n : Int) (h1 : -549755813888 ≤ n) (h2 : n < 549755813888) (w : World) :
    Calls Tryz.prog 94 #[.int .i64 n] w (NumPost (zigS n).toNat w) := by
  have e1 : inS n = true := inS_true h1 h2
  obtain ⟨m, hm⟩ : ∃ m : Nat, zigS n = m := ⟨(zigS n).toNat, by have := zigS_in h1 h2; omega⟩
  have hlt : m < 1099511627776 := by have := zigS_in h1 h2; omega
  have hz := zig_any n
  rw [hm] at hz ⊢
  rw [show ((m : Int)).toNat = m from rfl]
  have HZ := Lib.hid hz
  clear hz hm h1 h2
  go_enter Tryz.func94, Tryz.ntmps94
  go_wp2_with (first | (go_at_call 136; refine (signed_any _ _).mono ?_; rintro e w' ⟨rfl, rfl⟩) | (go_at_call 137; refine (HZ.out _).mono ?_; rintro e w' ⟨rfl, rfl⟩) | (go_at_call 70; refine (number_row m hlt _).mono ?_; rintro e w' ⟨g, c, rfl, ho, hb⟩))
  go_ret2
  exact ⟨_, _, rfl, ho, hb⟩

set_option maxHeartbeats 400000 in
theorem signum_none (n : Int) (h : n < -549755813888 ∨ 549755813888 ≤ n) (w : World) :
    Calls Tryz.prog 94 #[.int .i64 n] w fun e w' => e = .returned (.tuple #[.slice none 0 0, .bool false]) ∧ w = w' := by
  have e1 : inS n = false := by rcases h with h | h; exact inS_low h; exact inS_high h
  clear h
  go_enter Tryz.func94, Tryz.ntmps94
  go_wp2_with (go_at_call 136; refine (signed_any _ _).mono ?_; rintro e w' ⟨rfl, rfl⟩)
  go_ret2
  exact ⟨rfl, rfl⟩
end Go.Proofs.YtbebfgfpdcdcoaaGreat
/- Plain: requests, votes, certificates, parts as rows of numbers; how they are written and taken. Nothing of the program. -/
namespace Go.Proofs.YtbebfgfpdcdcoaaGreat

structure Rq where
  (cl tm kd ky vl sg : Int)
deriving DecidableEq
structure Vt where
  (nd sg : Int)
deriving DecidableEq
structure Ct where
  (vw ins sq : Int)
  bt : List Rq
  vs : List Vt
deriving DecidableEq
structure Pt where
  fr : Int
  vs : List Vt
  cs : List Ct
  sg : Int
deriving DecidableEq

/-- A field as it is written: a number, a number with a sign, a list's length. -/
inductive Tok where
  | num (n : Int) | sgn (n : Int) | len (n : Nat)
def Tok.code : Tok → Option Nat
  | .num n => if 0 ≤ n ∧ n < 1099511627776 then some n.toNat else none
  | .sgn n => if -549755813888 ≤ n ∧ n < 549755813888 then some (zigS n).toNat else none
  | .len n => if n ≤ 256 then some n else none
/-- The numbers of a row of fields, or none if one cannot be written. -/
def codes : List Tok → Option (List Nat)
  | [] => some []
  | t :: l => match t.code, codes l with
    | some n, some ns => some (n :: ns)
    | _, _ => none
theorem codes_nil : codes [] = some [] := rfl
theorem codes_cons {t : Tok} {l : List Tok} {ns : List Nat} : codes (t :: l) = some ns ↔ ∃ n r, t.code = some n ∧ codes l = some r ∧ ns = n :: r := by
  simp only [codes]
  cases h1 : t.code <;> cases h2 : codes l <;> simp [eq_comm]
theorem codes_one {t : Tok} {n : Nat} (h : t.code = some n) : codes [t] = some [n] := by simp [codes, h]
theorem codes_none_head {t : Tok} {l : List Tok} (h : t.code = none) : codes (t :: l) = none := by simp [codes, h]
theorem codes_none_tail {t : Tok} {l : List Tok} (h : codes l = none) : codes (t :: l) = none := by
  simp only [codes, h]
  cases t.code <;> rfl
theorem codes_app (l m : List Tok) : codes (l ++ m) = (match codes l, codes m with | some a, some b => some (a ++ b) | _, _ => none) := by
  induction l with
  | nil => simp [codes]; cases codes m <;> rfl
  | cons t l ih =>
    simp only [List.cons_append, codes, ih]
    cases t.code <;> cases codes l <;> cases codes m <;> rfl
theorem codes_app_some {l m : List Tok} {a b : List Nat} (h1 : codes l = some a) (h2 : codes m = some b) : codes (l ++ m) = some (a ++ b) := by
  rw [codes_app, h1, h2]
theorem codes_app_none1 {l m : List Tok} (h1 : codes l = none) : codes (l ++ m) = none := by
  rw [codes_app, h1]
theorem codes_app_none2 {l m : List Tok} (h1 : codes m = none) : codes (l ++ m) = none := by
  rw [codes_app, h1]; cases codes l <;> rfl
theorem codes_app_iff {l m : List Tok} {ns : List Nat} : codes (l ++ m) = some ns ↔ ∃ a b, codes l = some a ∧ codes m = some b ∧ ns = a ++ b := by
  rw [codes_app]
  cases codes l <;> cases codes m <;> simp [eq_comm]
theorem code_small {t : Tok} {n : Nat} (h : t.code = some n) : n < 1099511627776 := by
  cases t with
  | num k => simp only [Tok.code] at h; split at h <;> simp at h; omega
  | sgn k =>
    simp only [Tok.code] at h; split at h <;> simp at h
    rename_i h1
    have := zigS_in h1.1 h1.2
    omega
  | len k => simp only [Tok.code] at h; split at h <;> simp at h; omega
theorem codes_small : ∀ {l : List Tok} {ns : List Nat}, codes l = some ns → ∀ m ∈ ns, m < 1099511627776
  | [], ns, h => by simp [codes] at h; subst h; simp
  | t :: l, ns, h => by
    obtain ⟨n, r, h1, h2, rfl⟩ := codes_cons.1 h
    intro m hm
    rcases List.mem_cons.1 hm with rfl | hm
    · exact code_small h1
    · exact codes_small h2 m hm
theorem codes_len : ∀ {l : List Tok} {ns : List Nat}, codes l = some ns → ns.length = l.length
  | [], ns, h => by simp [codes] at h; subst h; rfl
  | t :: l, ns, h => by
    obtain ⟨n, r, h1, h2, rfl⟩ := codes_cons.1 h
    simp [codes_len h2]

def Rq.toks (r : Rq) : List Tok := [.num r.cl, .num r.tm, .num r.kd, .sgn r.ky, .sgn r.vl, .num r.sg]
def Vt.toks (v : Vt) : List Tok := [.num v.nd, .num v.sg]
def listToks {α : Type} (f : α → List Tok) (l : List α) : List Tok := .len l.length :: l.flatMap f
def Ct.toks (c : Ct) : List Tok := .num c.vw :: .num c.ins :: .num c.sq :: (listToks Rq.toks c.bt ++ listToks Vt.toks c.vs)
def Pt.toks (p : Pt) : List Tok := .num p.fr :: (listToks Vt.toks p.vs ++ (listToks Ct.toks p.cs ++ [.num p.sg]))
/-- The bytes of a row of fields, or none. -/
def bytesOf (l : List Tok) : Option (List Int) := (codes l).map flat

/-- A number at a place. -/
def tk (zs : List Int) (i : Int) : Option (Nat × Nat) := if (takeS zs i).2.2 then some ((takeS zs i).1.toNat, (takeS zs i).2.1.toNat) else none
theorem tk_cases (zs : List Int) (i : Int) (hz : ∀ z ∈ zs, 0 ≤ z ∧ z ≤ 255) :
    (tk zs i = none ∧ takeS zs i = (0, 0, false)) ∨
    ∃ (m p q : Nat), i = p ∧ tk zs i = some (m, q) ∧ takeS zs i = ((m : Int), (q : Int), true) ∧ p < q ∧ q ≤ zs.length ∧ m < 1099511627776 ∧ (zs.drop p).take (q - p) = enc m := by
  rcases takeS_cases zs i hz with h | ⟨m, p, q, h1, h2, h3, h4, h5, h6⟩
  · exact Or.inl ⟨by simp [tk, h], h⟩
  · exact Or.inr ⟨m, p, q, h1, by simp [tk, h2], h2, h3, h4, h5, h6⟩

/-- These numbers are written in zs from i to j. -/
def At (zs : List Int) : Int → List Nat → Int → Prop
  | i, [], j => i = j
  | i, m :: ns, j => ∃ k : Nat, tk zs i = some (m, k) ∧ At zs k ns j
theorem At.app {zs : List Int} : ∀ {ns ms : List Nat} {i j : Int}, At zs i (ns ++ ms) j ↔ ∃ k, At zs i ns k ∧ At zs k ms j
  | [], ms, i, j => by simp [At]
  | m :: ns, ms, i, j => by
    simp only [List.cons_append, At]
    constructor
    · rintro ⟨k, h1, h2⟩
      obtain ⟨q, h3, h4⟩ := At.app.1 h2
      exact ⟨q, ⟨k, h1, h3⟩, h4⟩
    · rintro ⟨q, ⟨k, h1, h3⟩, h4⟩
      exact ⟨k, h1, At.app.2 ⟨q, h3, h4⟩⟩
theorem At.one {zs : List Int} {i : Int} {m k : Nat} (h : tk zs i = some (m, k)) : At zs i [m] k := ⟨k, h, rfl⟩
theorem At.next {zs : List Int} {i j : Int} {m : Nat} {ns : List Nat} {k : Nat} (h : tk zs i = some (m, k)) (h2 : At zs k ns j) : At zs i (m :: ns) j := ⟨k, h, h2⟩
/-- Where numbers are written, there are just their bytes. -/
theorem At.bytes {zs : List Int} (hz : ∀ z ∈ zs, 0 ≤ z ∧ z ≤ 255) : ∀ {ns : List Nat} {p : Nat} {j : Int}, At zs p ns j → p ≤ zs.length →
    ∃ q : Nat, j = q ∧ p ≤ q ∧ q ≤ zs.length ∧ (zs.drop p).take (q - p) = flat ns ∧ p + ns.length ≤ q
  | [], p, j, h, hp => ⟨p, h.symm, Nat.le_refl _, hp, by simp [flat], by simp⟩
  | m :: ns, p, j, ⟨k, h1, h2⟩, hp => by
    rcases tk_cases zs p hz with ⟨h3, _⟩ | ⟨m', p', q, h3, h4, _, h5, h6, _, h7⟩
    · rw [h3] at h1; cases h1
    · rw [h4] at h1
      injection h1 with h1
      injection h1 with h1 h8
      subst h1; subst h8
      have h3 : p = p' := by omega
      subst h3
      obtain ⟨r, h9, h10, h11, h12, h13⟩ := At.bytes hz h2 h6
      refine ⟨r, h9, by omega, h11, ?_, by simp; omega⟩
      rw [flat_cons, ← h7, ← h12, show r - p = (q - p) + (r - q) by omega, List.take_add, List.drop_drop, show p + (q - p) = q by omega]
theorem tk_enc (pre post : List Int) (m : Nat) (hm : m < 1099511627776) : tk (pre ++ (enc m ++ post)) pre.length = some (m, pre.length + (enc m).length) := by
  unfold tk
  rw [takeS_enc pre post m hm]
  simp; omega
theorem At.flat (post : List Int) : ∀ (ns : List Nat) (pre : List Int), (∀ m ∈ ns, m < 1099511627776) → At (pre ++ (flat ns ++ post)) pre.length ns ((pre.length + (flat ns).length : Nat) : Int)
  | [], pre, _ => by simp [At, Go.Proofs.YtbebfgfpdcdcoaaGreat.flat]
  | m :: ns, pre, h => by
    refine ⟨pre.length + (enc m).length, ?_, ?_⟩
    · rw [flat_cons, List.append_assoc]
      exact tk_enc pre _ m (h m (List.mem_cons_self ..))
    · have h1 := At.flat post ns (pre ++ enc m) (fun k hk => h k (List.mem_cons_of_mem _ hk))
      rw [List.length_append] at h1
      rw [flat_cons, List.length_append, ← Nat.add_assoc, show pre ++ (enc m ++ Go.Proofs.YtbebfgfpdcdcoaaGreat.flat ns ++ post) = pre ++ enc m ++ (Go.Proofs.YtbebfgfpdcdcoaaGreat.flat ns ++ post) by simp]
      exact h1
/-- The taken number is the same where the bytes go on behind it. -/
theorem dec_more (r : List Int) : ∀ (l : List Int) (s : Nat) (acc : Int) (p : Int × Nat), dec s acc l = some p → dec s acc (l ++ r) = some p
  | [], s, acc, p, h => by simp [dec] at h
  | g :: l, s, acc, p, h => by
    simp only [List.cons_append, dec] at h ⊢
    by_cases h1 : 40 ≤ s
    · rw [if_pos h1] at h; cases h
    rw [if_neg h1] at h ⊢
    by_cases h2 : g < 128
    · rw [if_pos h2] at h ⊢; exact h
    · rw [if_neg h2] at h ⊢
      rw [Option.map_eq_some_iff] at h ⊢
      obtain ⟨q, h3, h4⟩ := h
      exact ⟨q, dec_more r l _ _ q h3, h4⟩
theorem takeS_more {zs r : List Int} {i : Int} (h : (takeS zs i).2.2 = true) : takeS (zs ++ r) i = takeS zs i := by
  unfold takeS at h ⊢
  by_cases h0 : i < 0
  · rw [if_pos h0] at h; cases h
  rw [if_neg h0] at h ⊢
  rw [if_neg h0]
  unfold res at h ⊢
  rcases hd : dec 0 0 (zs.drop i.toNat) with _ | ⟨n, k⟩
  · rw [hd] at h; cases h
  · have hne : i.toNat ≤ zs.length := by
      rcases Nat.le_total i.toNat zs.length with h1 | h1
      · exact h1
      · rw [List.drop_eq_nil_of_le h1] at hd; cases hd
    rw [List.drop_append_of_le_length hne, dec_more r _ _ _ _ hd]
theorem tk_more {zs r : List Int} {i : Int} {p : Nat × Nat} (h : tk zs i = some p) : tk (zs ++ r) i = some p := by
  unfold tk at h ⊢
  by_cases h1 : (takeS zs i).2.2 = true
  · rw [if_pos h1] at h
    rw [takeS_more h1, if_pos h1]; exact h
  · rw [if_neg h1] at h; cases h
theorem At.more {zs : List Int} (r : List Int) : ∀ {ns : List Nat} {i j : Int}, At zs i ns j → At (zs ++ r) i ns j
  | [], _, _, h => h
  | _ :: _, _, _, ⟨k, h1, h2⟩ => ⟨k, tk_more h1, At.more r h2⟩

/-- Takers: a value and the place behind it. -/
abbrev Tkr (α : Type) := Int → Option (α × Int)
def tkNum (zs : List Int) : Tkr Int := fun i => match tk zs i with
  | some (n, k) => some ((n : Int), (k : Int))
  | none => none
def tkSgn (zs : List Int) : Tkr Int := fun i => match tk zs i with
  | some (n, k) => some (zagS n, (k : Int))
  | none => none
def tkLen (zs : List Int) : Tkr Nat := fun i => match tk zs i with
  | some (n, k) => if n ≤ 256 then some (n, (k : Int)) else none
  | none => none
def tkMany {α : Type} (f : Tkr α) : Nat → Int → Option (List α × Int)
  | 0, i => some ([], i)
  | n + 1, i => match f i with
    | some (x, k) => match tkMany f n k with
      | some (l, j) => some (x :: l, j)
      | none => none
    | none => none
def tkList {α : Type} (zs : List Int) (f : Tkr α) : Tkr (List α) := fun i => match tkLen zs i with
  | some (n, k) => tkMany f n k
  | none => none
def tkReq (zs : List Int) : Tkr Rq := fun i =>
  (tkNum zs i).bind fun c => (tkNum zs c.2).bind fun t => (tkNum zs t.2).bind fun k => (tkSgn zs k.2).bind fun y => (tkSgn zs y.2).bind fun v => (tkNum zs v.2).bind fun s =>
    some (⟨c.1, t.1, k.1, y.1, v.1, s.1⟩, s.2)
def tkVote (zs : List Int) : Tkr Vt := fun i => (tkNum zs i).bind fun n => (tkNum zs n.2).bind fun s => some (⟨n.1, s.1⟩, s.2)
def tkBatch (zs : List Int) : Tkr (List Rq) := tkList zs (tkReq zs)
def tkVotes (zs : List Int) : Tkr (List Vt) := tkList zs (tkVote zs)
def tkCert (zs : List Int) : Tkr Ct := fun i =>
  (tkNum zs i).bind fun v => (tkNum zs v.2).bind fun n => (tkNum zs n.2).bind fun q => (tkBatch zs q.2).bind fun b => (tkVotes zs b.2).bind fun o => some (⟨v.1, n.1, q.1, b.1, o.1⟩, o.2)
def tkCerts (zs : List Int) : Tkr (List Ct) := tkList zs (tkCert zs)
def tkPart (zs : List Int) : Tkr Pt := fun i =>
  (tkNum zs i).bind fun f => (tkVotes zs f.2).bind fun o => (tkCerts zs o.2).bind fun c => (tkNum zs c.2).bind fun s => some (⟨f.1, o.1, c.1, s.1⟩, s.2)
def tkParts (zs : List Int) : Tkr (List Pt) := tkList zs (tkPart zs)

/-- A taker takes just what is written so. -/
structure Tells {α : Type} (zs : List Int) (f : Tkr α) (g : α → List Tok) : Prop where
  fwd : ∀ {x : α} {ns : List Nat} {i j : Int}, codes (g x) = some ns → At zs i ns j → f i = some (x, j)
  back : ∀ {x : α} {i j : Int}, f i = some (x, j) → ∃ ns, codes (g x) = some ns ∧ At zs i ns j
section
variable {zs : List Int}
theorem code_num {n : Int} {m : Nat} : (Tok.num n).code = some m ↔ n = m ∧ m < 1099511627776 := by
  simp only [Tok.code]
  split <;> simp <;> omega
theorem code_len {n m : Nat} : (Tok.len n).code = some m ↔ n = m ∧ m ≤ 256 := by
  simp only [Tok.code]
  split <;> simp <;> omega
theorem zag_in {n : Int} (h1 : 0 ≤ n) (h2 : n < 1099511627776) : -549755813888 ≤ zagS n ∧ zagS n < 549755813888 := by
  unfold zagS; rw [if_neg (by omega)]; split <;> omega
theorem small_int {m : Nat} (h : m < 1099511627776) : (m : Int) < 1099511627776 := by omega
theorem small_nat {n : Int} (h0 : 0 ≤ n) (h : n < 1099511627776) : n.toNat < 1099511627776 := by omega
theorem code_sgn_in {n : Int} (h1 : -549755813888 ≤ n ∧ n < 549755813888) : (Tok.sgn n).code = some (zigS n).toNat := if_pos h1
theorem code_sgn_out {n : Int} (h1 : ¬ (-549755813888 ≤ n ∧ n < 549755813888)) : (Tok.sgn n).code = none := if_neg h1
theorem code_sgn1 {n : Int} {m : Nat} (h : (Tok.sgn n).code = some m) : n = zagS m := by
  by_cases h1 : -549755813888 ≤ n ∧ n < 549755813888
  · rw [code_sgn_in h1] at h
    have h4 := Option.some.inj h
    have h5 : ((zigS n).toNat : Int) = zigS n := Int.toNat_of_nonneg (zigS_in h1.1 h1.2).1
    rw [← h4, h5, zagS_zig h1.1 h1.2]
  · rw [code_sgn_out h1] at h; cases h
theorem code_sgn2 {m : Nat} (h : m < 1099511627776) : (Tok.sgn (zagS m)).code = some m := by
  have h0 : (0 : Int) ≤ m := Int.natCast_nonneg m
  rw [code_sgn_in (zag_in h0 (small_int h)), zigS_zag h0 (small_int h), Int.toNat_natCast]
theorem tk_small (hz : ∀ z ∈ zs, 0 ≤ z ∧ z ≤ 255) {i : Int} {m k : Nat} (h : tk zs i = some (m, k)) : m < 1099511627776 := by
  rcases tk_cases zs i hz with ⟨h1, _⟩ | ⟨m', p, q, _, h1, _, _, _, h2, _⟩
  · rw [h1] at h; cases h
  · rw [h1] at h; injection h with h; injection h with h h3; omega
theorem tells_num (hz : ∀ z ∈ zs, 0 ≤ z ∧ z ≤ 255) : Tells zs (tkNum zs) fun n => [.num n] := by
  constructor
  · intro x ns i j h ha
    obtain ⟨n, r, h1, h2, rfl⟩ := codes_cons.1 h
    simp [codes] at h2; subst h2
    obtain ⟨k, h3, h4⟩ := ha
    obtain ⟨rfl, _⟩ := code_num.1 h1
    cases h4
    simp [tkNum, h3]
  · intro x i j h
    unfold tkNum at h
    split at h <;> simp at h
    rename_i n k h1
    obtain ⟨rfl, rfl⟩ := h
    exact ⟨[n], codes_one (code_num.2 ⟨rfl, tk_small hz h1⟩), k, h1, rfl⟩
theorem tells_sgn (hz : ∀ z ∈ zs, 0 ≤ z ∧ z ≤ 255) : Tells zs (tkSgn zs) fun n => [.sgn n] := by
  constructor
  · intro x ns i j h ha
    obtain ⟨n, r, h1, h2, rfl⟩ := codes_cons.1 h
    simp [codes] at h2; subst h2
    obtain ⟨k, h3, h4⟩ := ha
    obtain rfl := code_sgn1 h1
    cases h4
    simp [tkSgn, h3]
  · intro x i j h
    unfold tkSgn at h
    split at h <;> simp at h
    rename_i n k h1
    obtain ⟨rfl, rfl⟩ := h
    exact ⟨[n], codes_one (code_sgn2 (tk_small hz h1)), k, h1, rfl⟩
theorem tells_len : Tells zs (tkLen zs) fun n => [.len n] := by
  constructor
  · intro x ns i j h ha
    obtain ⟨n, r, h1, h2, rfl⟩ := codes_cons.1 h
    simp [codes] at h2; subst h2
    obtain ⟨k, h3, h4⟩ := ha
    obtain ⟨rfl, h5⟩ := code_len.1 h1
    cases h4
    simp [tkLen, h3, h5]
  · intro x i j h
    unfold tkLen at h
    split at h <;> simp at h
    rename_i n k h1
    obtain ⟨h2, rfl, rfl⟩ := h
    exact ⟨[n], codes_one (code_len.2 ⟨rfl, h2⟩), k, h1, rfl⟩
theorem tells_many {α : Type} {f : Tkr α} {g : α → List Tok} (h : Tells zs f g) : ∀ {l : List α} {ns : List Nat} {i j : Int}, codes (l.flatMap g) = some ns → At zs i ns j → tkMany f l.length i = some (l, j)
  | [], ns, i, j, hc, ha => by
    simp [codes] at hc; subst hc
    cases ha
    rfl
  | x :: l, ns, i, j, hc, ha => by
    rw [List.flatMap_cons] at hc
    obtain ⟨a, b, h1, h2, rfl⟩ := codes_app_iff.1 hc
    obtain ⟨k, h3, h4⟩ := At.app.1 ha
    simp only [List.length_cons, tkMany, h.fwd h1 h3, tells_many h h2 h4]
theorem tells_many_back {α : Type} {f : Tkr α} {g : α → List Tok} (h : Tells zs f g) : ∀ {n : Nat} {l : List α} {i j : Int}, tkMany f n i = some (l, j) → l.length = n ∧ ∃ ns, codes (l.flatMap g) = some ns ∧ At zs i ns j
  | 0, l, i, j, ht => by
    simp [tkMany] at ht
    obtain ⟨rfl, rfl⟩ := ht
    exact ⟨rfl, [], rfl, rfl⟩
  | n + 1, l, i, j, ht => by
    simp only [tkMany] at ht
    split at ht <;> rename_i h1
    · split at ht <;> rename_i h2
      · injection ht with ht
        injection ht with h3 h4
        subst h3; subst h4
        obtain ⟨a, h5, h6⟩ := h.back h1
        obtain ⟨h7, b, h8, h9⟩ := tells_many_back h h2
        exact ⟨by simp [h7], a ++ b, by rw [List.flatMap_cons]; exact codes_app_some h5 h8, At.app.2 ⟨_, h6, h9⟩⟩
      · cases ht
    · cases ht
theorem tells_list {α : Type} {f : Tkr α} {g : α → List Tok} (h : Tells zs f g) : Tells zs (tkList zs f) (listToks g) := by
  constructor
  · intro l ns i j hc ha
    obtain ⟨n, r, h1, h2, rfl⟩ := codes_cons.1 hc
    obtain ⟨k, h3, h4⟩ := ha
    obtain ⟨rfl, h5⟩ := code_len.1 h1
    simp only [tkList, tkLen, h3, if_pos h5]
    exact tells_many h h2 h4
  · intro l i j ht
    unfold tkList at ht
    split at ht <;> rename_i h1
    · obtain ⟨a, h2, h3⟩ := tells_len.back h1
      obtain ⟨h4, b, h5, h6⟩ := tells_many_back h ht
      subst h4
      exact ⟨a ++ b, codes_app_some (l := [.len l.length]) h2 h5, At.app.2 ⟨_, h3, h6⟩⟩
    · cases ht
theorem tells_req (hz : ∀ z ∈ zs, 0 ≤ z ∧ z ≤ 255) : Tells zs (tkReq zs) Rq.toks := by
  constructor
  · rintro ⟨c, t, k, y, v, s⟩ ns i j hc ha
    simp only [Rq.toks, codes_cons] at hc
    obtain ⟨n1, _, h1, ⟨n2, _, h2, ⟨n3, _, h3, ⟨n4, _, h4, ⟨n5, _, h5, ⟨n6, r, h6, h7, rfl⟩, rfl⟩, rfl⟩, rfl⟩, rfl⟩, rfl⟩ := hc
    simp [codes] at h7; subst h7
    obtain ⟨k1, a1, k2, a2, k3, a3, k4, a4, k5, a5, k6, a6, rfl⟩ := ha
    obtain ⟨rfl, _⟩ := code_num.1 h1
    obtain ⟨rfl, _⟩ := code_num.1 h2
    obtain ⟨rfl, _⟩ := code_num.1 h3
    obtain rfl := code_sgn1 h4
    obtain rfl := code_sgn1 h5
    obtain ⟨rfl, _⟩ := code_num.1 h6
    simp [tkReq, tkNum, tkSgn, a1, a2, a3, a4, a5, a6]
  · intro x i j ht
    simp only [tkReq, Option.bind_eq_some_iff] at ht
    obtain ⟨⟨c, k1⟩, h1, ⟨t, k2⟩, h2, ⟨k, k3⟩, h3, ⟨y, k4⟩, h4, ⟨v, k5⟩, h5, ⟨s, k6⟩, h6, h7⟩ := ht
    injection h7 with h7
    injection h7 with h7 h8
    subst h7; subst h8
    obtain ⟨a1, b1, c1⟩ := (tells_num hz).back h1
    obtain ⟨a2, b2, c2⟩ := (tells_num hz).back h2
    obtain ⟨a3, b3, c3⟩ := (tells_num hz).back h3
    obtain ⟨a4, b4, c4⟩ := (tells_sgn hz).back h4
    obtain ⟨a5, b5, c5⟩ := (tells_sgn hz).back h5
    obtain ⟨a6, b6, c6⟩ := (tells_num hz).back h6
    exact ⟨a1 ++ (a2 ++ (a3 ++ (a4 ++ (a5 ++ a6)))), codes_app_some (l := [_]) b1 (codes_app_some (l := [_]) b2 (codes_app_some (l := [_]) b3 (codes_app_some (l := [_]) b4 (codes_app_some (l := [_]) b5 b6)))),
      At.app.2 ⟨_, c1, At.app.2 ⟨_, c2, At.app.2 ⟨_, c3, At.app.2 ⟨_, c4, At.app.2 ⟨_, c5, c6⟩⟩⟩⟩⟩⟩
theorem tells_vote (hz : ∀ z ∈ zs, 0 ≤ z ∧ z ≤ 255) : Tells zs (tkVote zs) Vt.toks := by
  constructor
  · rintro ⟨c, t⟩ ns i j hc ha
    simp only [Vt.toks, codes_cons] at hc
    obtain ⟨n1, _, h1, ⟨n2, r, h2, h7, rfl⟩, rfl⟩ := hc
    simp [codes] at h7; subst h7
    obtain ⟨k1, a1, k2, a2, rfl⟩ := ha
    obtain ⟨rfl, _⟩ := code_num.1 h1
    obtain ⟨rfl, _⟩ := code_num.1 h2
    simp [tkVote, tkNum, a1, a2]
  · intro x i j ht
    simp only [tkVote, Option.bind_eq_some_iff] at ht
    obtain ⟨⟨c, k1⟩, h1, ⟨t, k2⟩, h2, h7⟩ := ht
    injection h7 with h7
    injection h7 with h7 h8
    subst h7; subst h8
    obtain ⟨a1, b1, c1⟩ := (tells_num hz).back h1
    obtain ⟨a2, b2, c2⟩ := (tells_num hz).back h2
    exact ⟨a1 ++ a2, codes_app_some (l := [_]) b1 b2, At.app.2 ⟨_, c1, c2⟩⟩
theorem tells_batch (hz : ∀ z ∈ zs, 0 ≤ z ∧ z ≤ 255) : Tells zs (tkBatch zs) (listToks Rq.toks) := tells_list (tells_req hz)
theorem tells_votes (hz : ∀ z ∈ zs, 0 ≤ z ∧ z ≤ 255) : Tells zs (tkVotes zs) (listToks Vt.toks) := tells_list (tells_vote hz)
theorem tells_cert (hz : ∀ z ∈ zs, 0 ≤ z ∧ z ≤ 255) : Tells zs (tkCert zs) Ct.toks := by
  constructor
  · rintro ⟨c, t, q, b, o⟩ ns i j hc ha
    simp only [Ct.toks, codes_cons, codes_app_iff] at hc
    obtain ⟨n1, _, h1, ⟨n2, _, h2, ⟨n3, _, h3, ⟨m4, m5, h4, h5, rfl⟩, rfl⟩, rfl⟩, rfl⟩ := hc
    obtain ⟨k1, a1, k2, a2, k3, a3, a4⟩ := ha
    obtain ⟨k4, a4, a5⟩ := At.app.1 a4
    obtain ⟨rfl, _⟩ := code_num.1 h1
    obtain ⟨rfl, _⟩ := code_num.1 h2
    obtain ⟨rfl, _⟩ := code_num.1 h3
    simp [tkCert, tkNum, a1, a2, a3, (tells_batch hz).fwd h4 a4, (tells_votes hz).fwd h5 a5]
  · intro x i j ht
    simp only [tkCert, Option.bind_eq_some_iff] at ht
    obtain ⟨⟨c, k1⟩, h1, ⟨t, k2⟩, h2, ⟨q, k3⟩, h3, ⟨b, k4⟩, h4, ⟨o, k5⟩, h5, h7⟩ := ht
    injection h7 with h7
    injection h7 with h7 h8
    subst h7; subst h8
    obtain ⟨a1, b1, c1⟩ := (tells_num hz).back h1
    obtain ⟨a2, b2, c2⟩ := (tells_num hz).back h2
    obtain ⟨a3, b3, c3⟩ := (tells_num hz).back h3
    obtain ⟨a4, b4, c4⟩ := (tells_batch hz).back h4
    obtain ⟨a5, b5, c5⟩ := (tells_votes hz).back h5
    exact ⟨a1 ++ (a2 ++ (a3 ++ (a4 ++ a5))), codes_app_some (l := [_]) b1 (codes_app_some (l := [_]) b2 (codes_app_some (l := [_]) b3 (codes_app_some b4 b5))),
      At.app.2 ⟨_, c1, At.app.2 ⟨_, c2, At.app.2 ⟨_, c3, At.app.2 ⟨_, c4, c5⟩⟩⟩⟩⟩
theorem tells_certs (hz : ∀ z ∈ zs, 0 ≤ z ∧ z ≤ 255) : Tells zs (tkCerts zs) (listToks Ct.toks) := tells_list (tells_cert hz)
theorem tells_part (hz : ∀ z ∈ zs, 0 ≤ z ∧ z ≤ 255) : Tells zs (tkPart zs) Pt.toks := by
  constructor
  · rintro ⟨c, o, b, s⟩ ns i j hc ha
    simp only [Pt.toks, codes_cons, codes_app_iff] at hc
    obtain ⟨n1, _, h1, ⟨m4, _, h4, ⟨m5, _, h5, ⟨n6, r, h6, h7, rfl⟩, rfl⟩, rfl⟩, rfl⟩ := hc
    simp [codes] at h7; subst h7
    obtain ⟨k1, a1, a4⟩ := ha
    obtain ⟨k4, c4, a5⟩ := At.app.1 a4
    obtain ⟨k5, c5, k6, a6, rfl⟩ := At.app.1 a5
    obtain ⟨rfl, _⟩ := code_num.1 h1
    obtain ⟨rfl, _⟩ := code_num.1 h6
    simp [tkPart, tkNum, a1, (tells_votes hz).fwd h4 c4, (tells_certs hz).fwd h5 c5, a6]
  · intro x i j ht
    simp only [tkPart, Option.bind_eq_some_iff] at ht
    obtain ⟨⟨c, k1⟩, h1, ⟨o, k2⟩, h2, ⟨b, k3⟩, h3, ⟨s, k4⟩, h4, h7⟩ := ht
    injection h7 with h7
    injection h7 with h7 h8
    subst h7; subst h8
    obtain ⟨a1, b1, c1⟩ := (tells_num hz).back h1
    obtain ⟨a2, b2, c2⟩ := (tells_votes hz).back h2
    obtain ⟨a3, b3, c3⟩ := (tells_certs hz).back h3
    obtain ⟨a4, b4, c4⟩ := (tells_num hz).back h4
    exact ⟨a1 ++ (a2 ++ (a3 ++ a4)), codes_app_some (l := [_]) b1 (codes_app_some b2 (codes_app_some b3 b4)),
      At.app.2 ⟨_, c1, At.app.2 ⟨_, c2, At.app.2 ⟨_, c3, c4⟩⟩⟩⟩
theorem tells_parts (hz : ∀ z ∈ zs, 0 ≤ z ∧ z ≤ 255) : Tells zs (tkParts zs) (listToks Pt.toks) := tells_list (tells_part hz)
end
/-- What is written is bytes. -/
theorem bytesOf_u8 {l : List Tok} {bs : List Int} (h : bytesOf l = some bs) : ∀ z ∈ bs, 0 ≤ z ∧ z ≤ 255 := by
  simp only [bytesOf, Option.map_eq_some_iff] at h
  obtain ⟨ns, _, rfl⟩ := h
  exact flat_u8 ns
theorem bytesOf_len {l : List Tok} {bs : List Int} (h : bytesOf l = some bs) : bs.length ≤ 6 * l.length := by
  simp only [bytesOf, Option.map_eq_some_iff] at h
  obtain ⟨ns, h1, rfl⟩ := h
  have := flat_len ns (codes_small h1)
  rw [codes_len h1] at this
  exact this
theorem flat_ge : ∀ (ns : List Nat), ns.length ≤ (flat ns).length
  | [] => by simp [flat]
  | m :: l => by
    have h1 := enc_pos m
    have h2 := flat_ge l
    rw [flat_cons]
    simp; omega
section
variable {α : Type} {f : List Int → Tkr α} {g : α → List Tok}
/-- What is written is taken as itself (whatever stands behind it). -/
theorem taken (h : ∀ {zs}, (∀ z ∈ zs, 0 ≤ z ∧ z ≤ 255) → Tells zs (f zs) g) {x : α} {bs : List Int} (hb : bytesOf (g x) = some bs) (post : List Int) (hp : ∀ z ∈ post, 0 ≤ z ∧ z ≤ 255) :
    f (bs ++ post) 0 = some (x, (bs.length : Int)) := by
  have hu := bytesOf_u8 hb
  simp only [bytesOf, Option.map_eq_some_iff] at hb
  obtain ⟨ns, h1, rfl⟩ := hb
  have h2 := At.flat post ns [] (codes_small h1)
  simp only [List.nil_append, List.length_nil, Nat.zero_add] at h2
  exact (h fun z hz => (List.mem_append.1 hz).elim (hu z) (hp z)).fwd h1 h2
theorem taken0 (h : ∀ {zs}, (∀ z ∈ zs, 0 ≤ z ∧ z ≤ 255) → Tells zs (f zs) g) {x : α} {bs : List Int} (hb : bytesOf (g x) = some bs) : f bs 0 = some (x, (bs.length : Int)) := by
  have h1 := taken h hb [] (by simp)
  rwa [List.append_nil] at h1
/-- Unlike things have unlike bytes. -/
theorem unlike (h : ∀ {zs}, (∀ z ∈ zs, 0 ≤ z ∧ z ≤ 255) → Tells zs (f zs) g) {x y : α} {bs : List Int} (hb : bytesOf (g x) = some bs) (hc : bytesOf (g y) = some bs) : x = y := by
  have h1 := taken0 h hb
  rw [taken0 h hc] at h1
  injection h1 with h1
  injection h1 with h1 _
  exact h1.symm
/-- What is taken is written as just the bytes that it was taken from. -/
theorem taken_back (h : ∀ {zs}, (∀ z ∈ zs, 0 ≤ z ∧ z ≤ 255) → Tells zs (f zs) g) {zs : List Int} (hz : ∀ z ∈ zs, 0 ≤ z ∧ z ≤ 255) {x : α} {p : Nat} {j : Int} (hp : p ≤ zs.length) (ht : f zs p = some (x, j)) :
    ∃ q : Nat, j = q ∧ p ≤ q ∧ q ≤ zs.length ∧ bytesOf (g x) = some ((zs.drop p).take (q - p)) ∧ (g x).length ≤ q - p := by
  obtain ⟨ns, h1, h2⟩ := (h hz).back ht
  obtain ⟨q, h3, h4, h5, h6, h7⟩ := h2.bytes hz hp
  exact ⟨q, h3, h4, h5, by simp [bytesOf, h1, h6], by rw [codes_len h1] at h7; omega⟩
/-- Bytes that are cut are taken as nothing. -/
theorem cut_none (h : ∀ {zs}, (∀ z ∈ zs, 0 ≤ z ∧ z ≤ 255) → Tells zs (f zs) g) {x : α} {bs : List Int} (hb : bytesOf (g x) = some bs) {k : Nat} (hk : k < bs.length) : f (bs.take k) 0 = none := by
  have hu := bytesOf_u8 hb
  have hc : ∀ z ∈ bs.take k, 0 ≤ z ∧ z ≤ 255 := fun z hz => hu z (List.mem_of_mem_take hz)
  rcases ht : f (bs.take k) 0 with _ | ⟨y, j⟩
  · rfl
  · exfalso
    obtain ⟨ns, h1, h2⟩ := (h hc).back ht
    obtain ⟨q, h3, _, h5, _⟩ := At.bytes (p := 0) hc h2 (Nat.zero_le _)
    have h4 := h2.more (bs.drop k)
    rw [List.take_append_drop] at h4
    have h6 := (h hu).fwd h1 h4
    rw [taken0 h hb] at h6
    injection h6 with h6
    injection h6 with _ h6
    simp at h5
    omega
/-- Nothing is taken at a place that is not there. -/
theorem first_num {zs : List Int} (hz : ∀ z ∈ zs, 0 ≤ z ∧ z ≤ 255) {t : Tok} {l : List Tok} {ns : List Nat} {i j : Int} (h : codes (t :: l) = some ns) (ha : At zs i ns j) : ∃ p : Nat, i = p ∧ p < zs.length := by
  obtain ⟨n, r, _, _, rfl⟩ := codes_cons.1 h
  obtain ⟨k, h1, _⟩ := ha
  rcases tk_cases zs i hz with ⟨h2, _⟩ | ⟨m, p, q, h2, _, _, h3, h4, _⟩
  · rw [h2] at h1; cases h1
  · exact ⟨p, h2, by omega⟩
end
end Go.Proofs.YtbebfgfpdcdcoaaGreat
/- Requests: when one is right, their order, rows in order. Nothing of the program. -/
namespace Go.Proofs.YtbebfgfpdcdcoaaGreat

def validS (r : Rq) (n : Int) : Bool := decide (0 ≤ r.cl ∧ r.cl < n ∧ 1 ≤ r.tm ∧ r.tm ≤ 1048576 ∧ 1 ≤ r.kd ∧ r.kd ≤ 5 ∧ 0 ≤ r.ky ∧ r.ky < 64 ∧ -2147483648 < r.vl ∧ r.vl < 2147483648 ∧ 0 ≤ r.sg ∧ r.sg < 1099511627776 ∧ (r.kd = 1 ∨ r.kd = 3 ∨ r.vl = 0) ∧ (r.kd ≠ 5 ∨ r.ky = 0))
def Rq.key (r : Rq) : List Int := [r.cl, r.tm, r.kd, r.ky, r.vl, r.sg]
theorem Rq.ext_key {a b : Rq} (h : a.key = b.key) : a = b := by
  cases a; cases b
  simp [Rq.key] at h
  obtain ⟨rfl, rfl, rfl, rfl, rfl, rfl⟩ := h
  rfl
def cmpL : List Int → List Int → Int
  | x :: l, y :: m => if x < y then -1 else if y < x then 1 else cmpL l m
  | _, _ => 0
theorem cmpL_anti : ∀ l m : List Int, cmpL m l = -cmpL l m
  | [], [] => rfl
  | [], _ :: _ => rfl
  | _ :: _, [] => rfl
  | x :: l, y :: m => by
    have := cmpL_anti l m
    unfold cmpL
    split
    · rw [if_neg (by omega)]
    · split
      · rfl
      · exact this
theorem cmpL_self : ∀ l : List Int, cmpL l l = 0
  | [] => rfl
  | x :: l => by
    unfold cmpL
    rw [if_neg (by omega), if_neg (by omega)]
    exact cmpL_self l
theorem cmpL_zero : ∀ {l m : List Int}, l.length = m.length → cmpL l m = 0 → l = m
  | [], [], _, _ => rfl
  | x :: l, y :: m, hl, h => by
    unfold cmpL at h
    split at h
    · omega
    · split at h
      · omega
      · rw [cmpL_zero (l := l) (m := m) (by simpa using hl) h, show x = y by omega]
theorem cmpL_range (l m : List Int) : cmpL l m = -1 ∨ cmpL l m = 0 ∨ cmpL l m = 1 := by
  induction l generalizing m with
  | nil => exact Or.inr (Or.inl (by cases m <;> rfl))
  | cons x l ih =>
    cases m with
    | nil => exact Or.inr (Or.inl rfl)
    | cons y m =>
      unfold cmpL
      split
      · exact Or.inl rfl
      · split
        · exact Or.inr (Or.inr rfl)
        · exact ih m
theorem cmpL_trans : ∀ {l m n : List Int}, l.length = m.length → m.length = n.length → cmpL l m ≤ 0 → cmpL m n ≤ 0 → cmpL l n ≤ 0 ∧ (cmpL l m < 0 ∨ cmpL m n < 0 → cmpL l n < 0)
  | [], [], [], _, _, _, _ => by simp [cmpL]
  | x :: l, y :: m, z :: n, h1, h2, h3, h4 => by
    have ih := cmpL_trans (l := l) (m := m) (n := n) (by simpa using h1) (by simpa using h2)
    unfold cmpL at h3 h4 ⊢
    by_cases a : x < y
    · by_cases b : y < z
      · rw [if_pos (by omega : x < z)]; omega
      · rw [if_neg b] at h4
        by_cases c : z < y
        · rw [if_pos c] at h4; omega
        · rw [if_pos (by omega : x < z)]; omega
    · rw [if_neg a] at h3
      by_cases a' : y < x
      · rw [if_pos a'] at h3; omega
      · rw [if_neg a'] at h3
        obtain rfl : x = y := by omega
        by_cases b : x < z
        · rw [if_pos b]; omega
        · rw [if_neg b] at h4
          by_cases c : z < x
          · rw [if_pos c] at h4; omega
          · rw [if_neg c] at h4
            obtain ⟨i1, i2⟩ := ih h3 h4
            rw [if_neg b, if_neg c]
            refine ⟨i1, fun h => i2 ?_⟩
            rw [if_neg (Int.lt_irrefl x), if_neg (Int.lt_irrefl x), if_neg b, if_neg c] at h
            exact h
def cmpR (a b : Rq) : Int := cmpL a.key b.key
theorem cmpR_anti (a b : Rq) : cmpR b a = -cmpR a b := cmpL_anti _ _
theorem cmpR_self (a : Rq) : cmpR a a = 0 := cmpL_self _
theorem cmpR_zero {a b : Rq} (h : cmpR a b = 0) : a = b := Rq.ext_key (cmpL_zero rfl h)
theorem cmpR_range (a b : Rq) : cmpR a b = -1 ∨ cmpR a b = 0 ∨ cmpR a b = 1 := cmpL_range _ _
theorem cmpR_trans {a b c : Rq} (h1 : cmpR a b < 0) (h2 : cmpR b c < 0) : cmpR a c < 0 := (cmpL_trans (l := a.key) (m := b.key) (n := c.key) rfl rfl (Int.le_of_lt h1) (Int.le_of_lt h2)).2 (Or.inl h1)
theorem cmpR_le {a b c : Rq} (h1 : cmpR a b ≤ 0) (h2 : cmpR b c ≤ 0) : cmpR a c ≤ 0 := (cmpL_trans (l := a.key) (m := b.key) (n := c.key) rfl rfl h1 h2).1
theorem cmpR_ge {a b c : Rq} (h1 : 0 ≤ cmpR a b) (h2 : 0 ≤ cmpR b c) : 0 ≤ cmpR a c := by
  have := cmpR_le (a := c) (b := b) (c := a) (by rw [cmpR_anti]; omega) (by rw [cmpR_anti]; omega)
  rw [cmpR_anti] at this
  omega
/-- A row in order, each once. -/
def Ris (l : List Rq) : Prop := l.Pairwise fun a b => cmpR a b < 0
theorem Ris.nodup {l : List Rq} (h : Ris l) : l.Nodup := List.Pairwise.imp (fun {a b} hab e => by rw [e, cmpR_self] at hab; omega) h
/-- Two rows in order with the same requests are one. -/
theorem Ris.unique : ∀ {l m : List Rq}, Ris l → Ris m → (∀ r, r ∈ l ↔ r ∈ m) → l = m
  | [], [], _, _, _ => rfl
  | [], y :: m, _, _, h => absurd ((h y).2 (by simp)) (by simp)
  | x :: l, [], _, _, h => absurd ((h x).1 (by simp)) (by simp)
  | x :: l, y :: m, hl, hm, h => by
    have h1 := List.pairwise_cons.1 hl
    have h2 := List.pairwise_cons.1 hm
    have hxy : x = y := by
      rcases List.mem_cons.1 ((h x).1 (by simp)) with e | e
      · exact e
      · rcases List.mem_cons.1 ((h y).2 (by simp)) with e' | e'
        · exact e'.symm
        · have a := h2.1 x e
          have b := h1.1 y e'
          rw [cmpR_anti] at a
          omega
    subst hxy
    rw [Ris.unique (l := l) (m := m) h1.2 h2.2 fun r => by
      have hr := h r
      constructor
      · intro hl'
        rcases List.mem_cons.1 (hr.1 (by simp [hl'])) with e | e
        · subst e; have := h1.1 r hl'; rw [cmpR_self] at this; omega
        · exact e
      · intro hm'
        rcases List.mem_cons.1 (hr.2 (by simp [hm'])) with e | e
        · subst e; have := h2.1 r hm'; rw [cmpR_self] at this; omega
        · exact e]
/-- Where a request goes: behind the last one that it is not below. -/
def place (r : Rq) (out : List Rq) : Nat → Nat
  | 0 => 0
  | k + 1 => match out[k]? with
    | some x => if cmpR r x < 0 then place r out k else k + 1
    | none => k + 1
theorem place_le (r : Rq) (out : List Rq) : ∀ k, place r out k ≤ k
  | 0 => Nat.le_refl _
  | k + 1 => by
    have := place_le r out k
    unfold place
    split
    · split <;> omega
    · omega
def putS (r : Rq) (out : List Rq) (k : Nat) : List Rq := out.take k ++ r :: out.drop k
def insS (out : List Rq) (r : Rq) : List Rq := if r ∈ out then out else putS r out (place r out out.length)
def orderS (l : List Rq) : List Rq := l.foldl insS []
theorem orderS_snoc (l : List Rq) (r : Rq) : orderS (l ++ [r]) = insS (orderS l) r := by simp [orderS, List.foldl_append]
theorem place_low {r : Rq} {out : List Rq} : ∀ {k : Nat}, k ≤ out.length → 0 < place r out k → ∃ x, out[place r out k - 1]? = some x ∧ 0 ≤ cmpR r x
  | 0, _, h => absurd h (by simp [place])
  | k + 1, hk, h => by
    have hx : out[k]? = some out[k] := List.getElem?_eq_getElem (by omega)
    unfold place at h ⊢
    rw [hx] at h ⊢
    by_cases hc : cmpR r out[k] < 0
    · simp only [if_pos hc] at h ⊢
      exact place_low (by omega) h
    · simp only [if_neg hc]
      exact ⟨_, hx, by omega⟩
theorem place_high {r : Rq} {out : List Rq} : ∀ {k : Nat}, k ≤ out.length → ∀ j, place r out k ≤ j → j < k → ∃ x, out[j]? = some x ∧ cmpR r x < 0
  | 0, _, j, _, h => absurd h (by omega)
  | k + 1, hk, j, h1, h2 => by
    have hx : out[k]? = some out[k] := List.getElem?_eq_getElem (by omega)
    unfold place at h1
    rw [hx] at h1
    by_cases hc : cmpR r out[k] < 0
    · simp only [if_pos hc] at h1
      by_cases hj : j = k
      · subst hj; exact ⟨_, hx, hc⟩
      · exact place_high (by omega) j h1 (by omega)
    · simp only [if_neg hc] at h1
      omega
theorem mem_putS {r x : Rq} {out : List Rq} {k : Nat} : x ∈ putS r out k ↔ x = r ∨ x ∈ out := by
  unfold putS
  rw [List.mem_append, List.mem_cons]
  constructor
  · rintro (h | rfl | h)
    · exact Or.inr (List.mem_of_mem_take h)
    · exact Or.inl rfl
    · exact Or.inr (List.mem_of_mem_drop h)
  · rintro (rfl | h)
    · exact Or.inr (Or.inl rfl)
    · rw [← List.take_append_drop k out, List.mem_append] at h
      rcases h with h | h
      · exact Or.inl h
      · exact Or.inr (Or.inr h)
theorem mem_insS {r x : Rq} {out : List Rq} : x ∈ insS out r ↔ x = r ∨ x ∈ out := by
  unfold insS
  split
  · rename_i h
    exact ⟨Or.inr, fun hx => hx.elim (fun e => e ▸ h) id⟩
  · exact mem_putS
theorem Ris.ins {out : List Rq} (h : Ris out) (r : Rq) : Ris (insS out r) := by
  unfold insS
  split
  · exact h
  · rename_i hr
    obtain ⟨k, hk⟩ : ∃ k, place r out out.length = k := ⟨_, rfl⟩
    have hlow := place_low (r := r) (out := out) (Nat.le_refl _)
    have hhigh := place_high (r := r) (out := out) (Nat.le_refl _)
    have hkl := place_le r out out.length
    rw [hk] at hlow hhigh hkl ⊢
    have hsplit : Ris (out.take k ++ out.drop k) := by rw [List.take_append_drop]; exact h
    obtain ⟨p1, p2, p3⟩ := List.pairwise_append.1 hsplit
    have hb : ∀ x ∈ out.take k, cmpR x r < 0 := fun x hx => by
      obtain ⟨j, hj, e⟩ := List.mem_iff_getElem.1 hx
      have hjk : j < k := by rw [List.length_take] at hj; omega
      obtain ⟨y, hy, hyc⟩ := hlow (by omega)
      have hyo : y ∈ out := List.mem_of_getElem? hy
      have hyr : cmpR y r < 0 := by
        have h0 : cmpR r y ≠ 0 := fun e => hr (cmpR_zero e ▸ hyo)
        rw [cmpR_anti]; omega
      by_cases hjy : j = k - 1
      · have : out[j]? = some x := by rw [← e, List.getElem_take]; exact List.getElem?_eq_getElem (by omega)
        rw [hjy, hy] at this
        cases this
        exact hyr
      · have hx' : out[j]? = some x := by rw [← e, List.getElem_take]; exact List.getElem?_eq_getElem (by omega)
        obtain ⟨h1, e1⟩ := List.getElem?_eq_some_iff.1 hx'
        obtain ⟨h2, e2⟩ := List.getElem?_eq_some_iff.1 hy
        have := List.pairwise_iff_getElem.1 h j (k - 1) h1 h2 (by omega)
        rw [e1, e2] at this
        exact cmpR_trans this hyr
    have ha : ∀ x ∈ out.drop k, cmpR r x < 0 := fun x hx => by
      obtain ⟨j, hj, e⟩ := List.mem_iff_getElem.1 hx
      rw [List.length_drop] at hj
      obtain ⟨y, hy, hyc⟩ := hhigh (k + j) (by omega) (by omega)
      rw [List.getElem_drop] at e
      rw [List.getElem?_eq_getElem (by omega), e] at hy
      cases hy
      exact hyc
    unfold putS
    refine List.pairwise_append.2 ⟨p1, List.pairwise_cons.2 ⟨ha, p2⟩, fun a ha' b hb' => ?_⟩
    rcases List.mem_cons.1 hb' with rfl | hb'
    · exact hb a ha'
    · exact p3 a ha' b hb'
theorem ris_order (l : List Rq) : Ris (orderS l) ∧ ∀ r, r ∈ orderS l ↔ r ∈ l := by
  have key : ∀ (l : List Rq) (out : List Rq), Ris out → Ris (l.foldl insS out) ∧ ∀ r, r ∈ l.foldl insS out ↔ r ∈ out ∨ r ∈ l := by
    intro l
    induction l with
    | nil => intro out h; exact ⟨h, fun r => by simp⟩
    | cons x l ih =>
      intro out h
      obtain ⟨h1, h2⟩ := ih (insS out x) (h.ins x)
      refine ⟨h1, fun r => ?_⟩
      rw [List.foldl_cons, h2, mem_insS, List.mem_cons]
      constructor
      · rintro ((e | e) | e)
        · exact Or.inr (Or.inl e)
        · exact Or.inl e
        · exact Or.inr (Or.inr e)
      · rintro (e | e | e)
        · exact Or.inl (Or.inr e)
        · exact Or.inl (Or.inl e)
        · exact Or.inr e
  obtain ⟨h1, h2⟩ := key l [] List.Pairwise.nil
  exact ⟨h1, fun r => by have := h2 r; simpa [orderS] using this⟩
/-- A row in order with the same requests is what they are in order. -/
theorem orderS_is {l m : List Rq} (h : Ris m) (hm : ∀ r, r ∈ m ↔ r ∈ l) : m = orderS l :=
  Ris.unique h (ris_order l).1 fun r => by rw [hm, (ris_order l).2]
theorem orderS_len (l : List Rq) : (orderS l).length ≤ l.length := by
  have key : ∀ (l : List Rq) (out : List Rq), (l.foldl insS out).length ≤ out.length + l.length := by
    intro l
    induction l with
    | nil => intro out; simp
    | cons x l ih =>
      intro out
      have := ih (insS out x)
      have h2 : (insS out x).length ≤ out.length + 1 := by
        unfold insS putS
        split
        · omega
        · simp; omega
      simp only [List.foldl_cons, List.length_cons]
      omega
  have := key l []
  simpa [orderS] using this
/-- Are requests in order, each once? -/
def risesR : List Rq → Bool
  | a :: b :: l => decide (cmpR a b < 0) && risesR (b :: l)
  | _ => true
theorem risesR_ris : ∀ {l : List Rq}, risesR l = true ↔ Ris l
  | [] => ⟨fun _ => List.Pairwise.nil, fun _ => rfl⟩
  | [a] => ⟨fun _ => List.pairwise_singleton _ _, fun _ => rfl⟩
  | a :: b :: l => by
    rw [risesR, Bool.and_eq_true, decide_eq_true_eq, risesR_ris (l := b :: l)]
    constructor
    · rintro ⟨h1, h2⟩
      refine List.pairwise_cons.2 ⟨fun x hx => ?_, h2⟩
      rcases List.mem_cons.1 hx with rfl | hx
      · exact h1
      · exact cmpR_trans h1 ((List.pairwise_cons.1 h2).1 x hx)
    · intro h
      obtain ⟨h1, h2⟩ := List.pairwise_cons.1 h
      exact ⟨h1 b (by simp), h2⟩
/-- The rest of a row rises. -/
theorem risesR_next {l : List Rq} {k : Nat} {a b : Rq} {r : List Rq} (h1 : l.drop k = a :: b :: r) : risesR (l.drop k) = (decide (cmpR a b < 0) && risesR (l.drop (k + 1))) := by
  have : l.drop (k + 1) = b :: r := by rw [← List.drop_drop, h1]; rfl
  rw [h1, this]; rfl
theorem risesR_last {l : List Rq} {k : Nat} (h : l.length ≤ k + 1) : risesR (l.drop k) = true := by
  have hl : (l.drop k).length ≤ 1 := by rw [List.length_drop]; omega
  match l.drop k, hl with
  | [], _ => rfl
  | [_], _ => rfl
end Go.Proofs.YtbebfgfpdcdcoaaGreat
/- Words on memory: a block that is known whole; what a call keeps that writes on through a writer. -/
namespace Go.Proofs.YtbebfgfpdcdcoaaGreat
open Go.RowKit

def fit (z : Int) : Prop := (Lit.int .i64 z).wf = true
/-- Block g is just these cells. -/
def Blk (w : World) (g : Nat) (t : TypeId) (cs : Array Value) : Prop := w.heap[g]? = some (.cells cs t (0, 0))
section
variable {w w' : World} {g : Nat} {t : TypeId} {cs : Array Value}
theorem Blk.lt (h : Blk w g t cs) : g < w.heap.size := by
  rcases Nat.lt_or_ge g w.heap.size with hlt | hge
  · exact hlt
  · unfold Blk at h; rw [Array.getElem?_eq_none hge] at h; cases h
theorem Blk.cell (h : Blk w g t cs) (i : Nat) : w.cell? ⟨g, i, none⟩ = cs[i]? := cell_of_row w g i cs t (0, 0) h
theorem Blk.frozen (h : Blk w g t cs) (i : Nat) : w.frozen? ⟨g, i, none⟩ = false := by
  unfold Blk at h
  simp [World.frozen?, h]
theorem Blk.new (w : World) (t : TypeId) (cs : Array Value) : Blk (w.alloc (.cells cs t)) w.heap.size t cs := heap_alloc_new w _
theorem Blk.new1 (w : World) (o : Obj) (t : TypeId) (cs : Array Value) : Blk ((w.alloc o).alloc (.cells cs t)) (w.heap.size + 1) t cs := by
  have h := Blk.new (w.alloc o) t cs
  simpa using h
theorem Blk.drew (h : Blk w g t cs) : Blk w.drew g t cs := h
theorem Blk.drewN (h : Blk w g t cs) (n : Nat) : Blk (w.drewN n) g t cs := h
theorem Blk.alloc (h : Blk w g t cs) (o : Obj) : Blk (w.alloc o) g t cs := (Below.heap_alloc w o g h.lt).trans h
theorem Blk.set_ (h : Blk w g t cs) (i : Nat) (u : Value) : Blk (w.setCell ⟨g, i, none⟩ u) g t (cs.setIfInBounds i u) := by
  unfold Blk at h ⊢
  simp [World.setCell, Array.getElem?_modify, h]
theorem Blk.far (h : Blk w g t cs) {p : Addr} (hp : g ≠ p.block) (u : Value) : Blk (w.setCell p u) g t cs := (Below.heap_setCell w p u g hp).trans h
theorem Blk.below {B : Nat} (h : Blk w g t cs) (hb : Below B w w') (hg : g < B) : Blk w' g t cs := (hb.block g hg).trans h
theorem Blk.grown {row : Option Nat} (h : Blk w g t cs) (hb : w.grownBy w' row) (hg : some g ≠ row) : Blk w' g t cs := (hb.block g h.lt hg).trans h
theorem Blk.ne_ {g' : Nat} {t' : TypeId} {cs' : Array Value} (h : Blk w g t cs) (h' : Blk w g' t' cs') (hne : t ≠ t') : g ≠ g' := by
  rintro rfl
  unfold Blk at h h'
  rw [h] at h'
  injection h' with h'
  injection h' with _ ht
  exact hne ht
theorem own_blk_ne {base : Nat} {e : TypeId} {size n : Nat} {v : Value} {xs : List Value} (h : w.ownsRow base e size v n xs) (hg : Blk w g t cs) (hne : e ≠ t) : v.ownBlock ≠ some g := by
  rcases h.2 with ⟨rfl, _⟩ | ⟨g', cap, cur, rfl, _, hh, _⟩
  · simp [Value.ownBlock]
  · intro he
    have : g' = g := by simpa [Value.ownBlock] using he
    subst this
    exact Blk.ne_ (t := e) hh hg hne rfl
/-- A row of the call's own is kept by a store into another block. -/
theorem own_far {base n size : Nat} {e : TypeId} {v : Value} {xs : List Value} (h : w.ownsRow base e size v n xs) {p : Addr} (hp : v.ownBlock ≠ some p.block) (u : Value) : (w.setCell p u).ownsRow base e size v n xs := by
  refine ⟨h.1, ?_⟩
  rcases h.2 with h2 | ⟨g', cap, cur, hv, hg, hh, r⟩
  · exact Or.inl h2
  · refine Or.inr ⟨g', cap, cur, hv, hg, (Below.heap_setCell w p u g' fun he => hp ?_).trans hh, r⟩
    rw [hv, ← he]; rfl
/-- What it holds, as a slice of its own. -/
theorem Blk.has (h : Blk w g t cs) {B : Nat} (hB : g < B) : Has w B (some ⟨g, 0, none⟩) cs.toList := fun j u hj => by
  refine ⟨_, rfl, hB, ?_⟩
  rw [addr_at, h.cell]
  simpa using hj
end

/-- From B on only block g has changed, and rows of element type t; below B nothing. -/
structure Kept (B g : Nat) (t : TypeId) (w w' : World) : Prop where
  os : w'.os = w.os
  tape : w'.tape = w.tape
  output : w'.output = w.output
  size : w.heap.size ≤ w'.heap.size
  block : ∀ k, k < w.heap.size → k ≠ g → (B ≤ k → ∀ cs fr, w.heap[k]? ≠ some (.cells cs t fr)) → w'.heap[k]? = w.heap[k]?
section
variable {B g : Nat} {t : TypeId} {a b c : World}
theorem Kept.refl (B g : Nat) (t : TypeId) (w : World) : Kept B g t w w := ⟨rfl, rfl, rfl, Nat.le_refl _, fun _ _ _ _ => rfl⟩
theorem Kept.trans (h : Kept B g t a b) (k : Kept B g t b c) : Kept B g t a c :=
  ⟨k.os.trans h.os, k.tape.trans h.tape, k.output.trans h.output, Nat.le_trans h.size k.size, fun i hi hg ht =>
    (k.block i (Nat.lt_of_lt_of_le hi h.size) hg (fun hB cs fr => by rw [h.block i hi hg ht]; exact ht hB cs fr)).trans (h.block i hi hg ht)⟩
theorem Kept.below (h : Kept B g t a b) (hg : B ≤ g) {B' : Nat} (hB : B' ≤ B) (hs : B' ≤ a.heap.size) : Below B' a b :=
  ⟨h.os, h.tape, h.output, h.size, fun k hk => h.block k (by omega) (by omega) (fun h2 => by omega)⟩
theorem Kept.of_below (h : Below B a b) (hs : B = a.heap.size) (B' g : Nat) (t : TypeId) : Kept B' g t a b :=
  ⟨h.os, h.tape, h.output, h.size, fun k hk _ _ => h.block k (by omega)⟩
theorem Kept.alloc (h : Kept B g t a b) (o : Obj) : Kept B g t a (b.alloc o) := h.trans ⟨rfl, rfl, rfl, by simp, fun k hk _ _ => Below.heap_alloc b o k hk⟩
theorem Kept.drew (h : Kept B g t a b) : Kept B g t a b.drew := ⟨h.os, h.tape, h.output, h.size, h.block⟩
theorem Kept.drewN (h : Kept B g t a b) (n : Nat) : Kept B g t a (b.drewN n) := ⟨h.os, h.tape, h.output, h.size, h.block⟩
theorem Kept.grown (h : Kept B g t a b) {base : Nat} {v : Value} {n s : Nat} {xs : List Value} (ho : b.ownsRow base t s v n xs) (hB : B ≤ base) (hg : b.grownBy c v.ownBlock) : Kept B g t a c := by
  refine h.trans ⟨hg.os, hg.tape, hg.output, hg.size, fun k hk _ ht => hg.block k hk fun he => ?_⟩
  rcases ho.2 with ⟨rfl, _⟩ | ⟨g', cap, cur, rfl, hg', hh, _⟩
  · cases he
  · injection he with he
    have he : g' = k := he.symm
    subst he
    exact ht (by omega) _ _ hh
theorem Kept.set_ (h : Kept B g t a b) (i : Nat) (u : Value) : Kept B g t a (b.setCell ⟨g, i, none⟩ u) :=
  h.trans ⟨rfl, rfl, rfl, by simp, fun k _ hk _ => Below.heap_setCell b _ u k hk⟩
theorem Kept.blk (h : Kept B g t a b) {k : Nat} {t' : TypeId} {cs : Array Value} (hb : Blk a k t' cs) (hne : t' ≠ t) (hk : k ≠ g) : Blk b k t' cs :=
  (h.block k hb.lt hk (fun _ cs' fr he => by
    unfold Blk at hb
    rw [hb] at he
    injection he with he
    injection he with _ he
    exact hne he)).trans hb
theorem Kept.has (h : Kept B g t a b) (hg : B ≤ g) {A : Option Addr} {xs : List Value} (hh : Has a B A xs) : Has b B A xs := fun j u hj => by
  obtain ⟨ad, e, hlt, hc⟩ := hh j u hj
  have hl := block_lt hc
  refine ⟨ad, e, hlt, ?_⟩
  rw [addr_block] at hl
  refine (World.cell?_of_block (w := a) ?_).trans hc
  rw [addr_block]
  exact h.block ad.block hl (by omega) (fun h2 => by omega)
end
theorem Has.set_far {w : World} {B : Nat} {A : Option Addr} {xs : List Value} (h : Has w B A xs) {p : Addr} (hp : ∀ ad, A = some ad → ad.block ≠ p.block) (u : Value) : Has (w.setCell p u) B A xs := fun j v hj => by
  obtain ⟨ad, e, hb, hc⟩ := h j v hj
  refine ⟨ad, e, hb, (World.cell?_of_block (w := w) ?_).trans hc⟩
  rw [addr_block]
  exact Below.heap_setCell w p u ad.block (hp ad e)
theorem i64_one (l : List Int) : ∀ u ∈ l.map (Value.int .i64), u.oneCell' = true := by
  intro u hu
  obtain ⟨z, _, rfl⟩ := List.mem_map.1 hu
  rfl
end Go.Proofs.YtbebfgfpdcdcoaaGreat
/- Words on memory: slices of structs, and arguments that are such slices, opened to cells (of no struct of the program). -/
namespace Go.Proofs.YtbebfgfpdcdcoaaGreat
open Go.RowKit Go.ChangeShapes Go.WideShapes Go.Deep

/-- A place in a row of things of s cells each. -/
theorem flatMap_at {α β : Type} {f : α → List β} {s : Nat} (hf : ∀ x, (f x).length = s) : ∀ {l : List α} {k : Nat} (hk : k < l.length) {i : Nat}, i < s → (l.flatMap f)[k * s + i]? = (f l[k])[i]?
  | x :: l, 0, _, i, hi => by
    rw [List.flatMap_cons, Nat.zero_mul, Nat.zero_add, List.getElem?_append_left (by rw [hf]; exact hi)]
    rfl
  | x :: l, k + 1, hk, i, hi => by
    rw [List.flatMap_cons, List.getElem?_append_right (by rw [hf, Nat.succ_mul]; omega), hf, show (k + 1) * s + i - s = k * s + i by rw [Nat.succ_mul]; omega]
    exact flatMap_at hf (by simpa using hk) hi
theorem flatMap_len {α β : Type} {f : α → List β} {s : Nat} (hf : ∀ x, (f x).length = s) (l : List α) : (l.flatMap f).length = l.length * s := by
  induction l with
  | nil => simp
  | cons x l ih => rw [List.flatMap_cons, List.length_append, hf, ih, List.length_cons, Nat.succ_mul]; omega
/-- The place i behind a place, in the walk's own spelling. -/
theorem add_pos (ad : Addr) (m i : Nat) (hi : 0 < i) : ad.add (m + i) = ⟨(ad.add m).block, (ad.add m).off + i, none⟩ := by
  rw [← addr_add]
  generalize ad.add m = p
  unfold Addr.add
  rw [if_neg (by omega)]
/-- The k-th thing of a row of things of s cells: where it lies, and its cells. -/
theorem Has.thing {α : Type} {f : α → List Value} {s : Nat} (hf : ∀ x, (f x).length = s) (h0 : 0 < s) {w : World} {B : Nat} {A : Option Addr} {l : List α} (h : Has w B A (l.flatMap f)) {k : Nat} (hk : k < l.length) :
    ∃ ad, A = some ad ∧ ad.block < B ∧ ∀ i v, (f l[k])[i]? = some v → w.cell? (ad.add (k * s + i)) = some v := by
  have hg : ∀ i v, (f l[k])[i]? = some v → ∃ ad, A = some ad ∧ ad.block < B ∧ w.cell? (ad.add (k * s + i)) = some v := fun i v hv => by
    have hi : i < s := by rw [← hf l[k]]; exact (List.getElem?_eq_some_iff.1 hv).1
    exact h (k * s + i) _ ((flatMap_at hf hk hi).trans hv)
  obtain ⟨ad, rfl, hb, _⟩ := hg 0 _ (List.getElem?_eq_getElem (by rw [hf]; exact h0))
  refine ⟨ad, rfl, hb, fun i v hv => ?_⟩
  obtain ⟨_, he, _, h1⟩ := hg i v hv
  cases he
  exact h1
theorem choose_list {α : Type} {n : Nat} {p : Nat → α → Prop} (h : ∀ i, i < n → ∃ x, p i x) : ∃ l : List α, l.length = n ∧ ∀ i (hi : i < l.length), p i l[i] := by
  induction n with
  | zero => exact ⟨[], rfl, fun i hi => absurd hi (by simp)⟩
  | succ n ih =>
    obtain ⟨l, hl, h1⟩ := ih fun i hi => h i (by omega)
    obtain ⟨x, hx⟩ := h n (by omega)
    refine ⟨l ++ [x], by simp [hl], fun i hi => ?_⟩
    by_cases hin : i < l.length
    · rw [List.getElem_append_left hin]; exact h1 i hin
    · have hie : i = n := by simp at hi; omega
      subst hie
      rw [List.getElem_append_right (by omega)]
      simpa using hx
/-- Each cell of a row of things of s cells each is a cell of one of them. -/
theorem flatMap_get {α : Type} {f : α → List Value} {s : Nat} (hf : ∀ x, (f x).length = s) (h0 : 0 < s) {l : List α} {j : Nat} {u : Value} (h : (l.flatMap f)[j]? = some u) :
    ∃ (k i : Nat) (hk : k < l.length), i < s ∧ j = k * s + i ∧ (f l[k])[i]? = some u := by
  have hj : j < l.length * s := by rw [← flatMap_len hf l]; exact (List.getElem?_eq_some_iff.1 h).1
  have hk : j / s < l.length := (Nat.div_lt_iff_lt_mul h0).2 hj
  have hi : j % s < s := Nat.mod_lt _ h0
  have he : j = j / s * s + j % s := by rw [Nat.mul_comm]; exact (Nat.div_add_mod j s).symm
  refine ⟨j / s, j % s, hk, hi, he, ?_⟩
  rw [← flatMap_at hf hk hi, ← he, h]

section
variable {H : Type} {enc : TypeId × Value → H} {P : Program} {w : World} {base : Nat} {held : Bool}
theorem open_things {α : Type} {f : α → List Value} {good : α → Prop} {s : Nat} {t e : TypeId} {fuel : Nat} {A : Option Addr} {len cap : Nat} {y : DataW H × List MemPlace} (hf : ∀ x, (f x).length = s) (h0 : 0 < s)
    (ht : P.underlying t = some (.slice e)) (hc : P.cellsOf e = s)
    (hel : ∀ n cs z, cs.length = s → DataW.trod enc P w base (fun _ => true) held n e cs = some z → ∃ x, cs = f x ∧ good x)
    (h : DataW.trod enc P w base (fun _ => true) held fuel t [.slice A len cap] = some y) :
    ∃ l : List α, l.length = len ∧ len ≤ cap ∧ cap ≤ maxLen ∧ (A = none → cap = 0) ∧ Has w w.heap.size A (l.flatMap f) ∧ ∀ x ∈ l, good x := by
  rcases open_slice ht h with ⟨hcs, _⟩ | ⟨a, len', cap', m, n, D, Pl, hcs, _, hl, hm, hmm, _, hx⟩
  · injection hcs with hcs
    injection hcs with h1 h2 h3
    subst h1; subst h2; subst h3
    exact ⟨[], rfl, Nat.le_refl _, Nat.zero_le _, fun _ => rfl, Has.nil _ _ _, by simp⟩
  · injection hcs with hcs
    injection hcs with h1 h2 h3
    subst h1; subst h2; subst h3
    simp only [if_true] at hmm
    rw [hc] at hx
    obtain ⟨l, hll, hl1⟩ := choose_list (n := len) (p := fun i x => (∀ j u, (f x)[j]? = some u → w.cell? (a.add (i * s + j)) = some u) ∧ good x) (fun i hi => by
      obtain ⟨cs', h1, h2⟩ := hx i (by omega)
      obtain ⟨_, h4, h5⟩ := World.cells?_some h1
      obtain ⟨x, rfl, hg⟩ := hel n cs' _ h4 h2
      refine ⟨x, fun j u hj => ?_, hg⟩
      have hjs : j < s := by rw [← hf x]; exact (List.getElem?_eq_some_iff.1 hj).1
      rw [← Go.Proofs.YtbebfgfpdcdcoaaGreat.addr_add, h5 j hjs, hj])
    refine ⟨l, hll, hl, hm, (fun h => by cases h), fun j u hj => ?_, fun x hx => ?_⟩
    · obtain ⟨k, i, hk, hi, rfl, hv⟩ := flatMap_get hf h0 hj
      have hcell := (hl1 k hk).1 i u hv
      have hb := block_lt hcell
      rw [addr_block] at hb
      exact ⟨a, rfl, hb, hcell⟩
    · obtain ⟨k, hk, rfl⟩ := List.getElem_of_mem hx
      exact (hl1 k hk).2
end
section
variable {H : Type} {enc : TypeId × Value → H} {w : World} {base : Nat} {held : Bool}
theorem trod_i64 {n : Nat} {cs : List Value} {z : DataW H × List MemPlace} (h : DataW.trod enc Tryz.prog w base (fun _ => true) held n 3 cs = some z) : ∃ k, cs = [.int .i64 k] ∧ fit k := by
  obtain ⟨k, h1, _, h2⟩ := DataW.trod_int Tryz.underlying3 h
  exact ⟨k, h1, h2⟩
theorem at_field {fs : Array Field} {n : Nat} {cs : List Value} {xs : List (DataW H × List MemPlace)} (hf : ∀ (i : Nat) (f : Field), fs[i]? = some f → DataW.trod enc Tryz.prog w base (fun _ => true) held n f.type ((cs.drop f.offset).take (Tryz.prog.cellsOf f.type)) = xs[i]?)
    (i t o k : Nat) (hi : (fs[i]?).map (fun f => (f.type, f.offset)) = some (t, o)) (hk : Tryz.prog.cellsOf t = k) (hx : i < xs.length) : ∃ y, DataW.trod enc Tryz.prog w base (fun _ => true) held n t ((cs.drop o).take k) = some y := by
  rw [Option.map_eq_some_iff] at hi
  obtain ⟨f, h1, h2⟩ := hi
  injection h2 with h2 h3
  subst h2; subst h3; subst hk
  exact ⟨xs[i], by rw [hf i f h1]; exact List.getElem?_eq_getElem hx⟩
theorem some_of {α : Type} {l : List α} {i : Nat} {o : Option α} (h : o = l[i]?) (hi : i < l.length) : ∃ x, o = some x := ⟨l[i], by rw [h]; exact List.getElem?_eq_getElem hi⟩
theorem trod_is_slice {n : Nat} {t e : TypeId} {cs : List Value} {y : DataW H × List MemPlace} (ht : Tryz.prog.underlying t = some (.slice e)) (h : DataW.trod enc Tryz.prog w base (fun _ => true) held n t cs = some y) : ∃ A l c, cs = [.slice A l c] := by
  rcases open_slice ht h with ⟨hcs, _⟩ | ⟨a, len', cap', m, n, D, Pl, hcs, _⟩
  · exact ⟨_, _, _, hcs⟩
  · exact ⟨_, _, _, hcs⟩
end
end Go.Proofs.YtbebfgfpdcdcoaaGreat
/- Words on memory: slices of requests, votes, certificates, parts. -/
namespace Go.Proofs.YtbebfgfpdcdcoaaGreat
open Go.RowKit

def Rq.cells (r : Rq) : List Value := [.int .i64 r.cl, .int .i64 r.tm, .int .i64 r.kd, .int .i64 r.ky, .int .i64 r.vl, .int .i64 r.sg]
def Vt.cells (v : Vt) : List Value := [.int .i64 v.nd, .int .i64 v.sg]
def reqCells (l : List Rq) : List Value := l.flatMap Rq.cells
def voteCells (l : List Vt) : List Value := l.flatMap Vt.cells
theorem reqCells_len (l : List Rq) : (reqCells l).length = l.length * 6 := flatMap_len (s := 6) (f := Rq.cells) (fun _ => rfl) l
theorem voteCells_len (l : List Vt) : (voteCells l).length = l.length * 2 := flatMap_len (s := 2) (f := Vt.cells) (fun _ => rfl) l
/-- A thing of a row. -/
theorem Has.req {w : World} {B : Nat} {A : Option Addr} {l : List Rq} (h : Has w B A (reqCells l)) {k : Nat} (hk : k < l.length) :
    ∃ ad, A = some ad ∧ ad.block < B ∧ w.cell? (ad.add (k * 6)) = some (.int .i64 l[k].cl) ∧ w.cell? ⟨(ad.add (k * 6)).block, (ad.add (k * 6)).off + 1, none⟩ = some (.int .i64 l[k].tm) ∧
      w.cell? ⟨(ad.add (k * 6)).block, (ad.add (k * 6)).off + 2, none⟩ = some (.int .i64 l[k].kd) ∧ w.cell? ⟨(ad.add (k * 6)).block, (ad.add (k * 6)).off + 3, none⟩ = some (.int .i64 l[k].ky) ∧
      w.cell? ⟨(ad.add (k * 6)).block, (ad.add (k * 6)).off + 4, none⟩ = some (.int .i64 l[k].vl) ∧ w.cell? ⟨(ad.add (k * 6)).block, (ad.add (k * 6)).off + 5, none⟩ = some (.int .i64 l[k].sg) := by
  obtain ⟨ad, e, hb, hc⟩ := h.thing (f := Rq.cells) (s := 6) (fun _ => rfl) (by omega) hk
  refine ⟨ad, e, hb, hc 0 _ rfl, ?_, ?_, ?_, ?_, ?_⟩
  · rw [← add_pos _ _ _ (by omega)]; exact hc 1 _ rfl
  · rw [← add_pos _ _ _ (by omega)]; exact hc 2 _ rfl
  · rw [← add_pos _ _ _ (by omega)]; exact hc 3 _ rfl
  · rw [← add_pos _ _ _ (by omega)]; exact hc 4 _ rfl
  · rw [← add_pos _ _ _ (by omega)]; exact hc 5 _ rfl
theorem Has.vote {w : World} {B : Nat} {A : Option Addr} {l : List Vt} (h : Has w B A (voteCells l)) {k : Nat} (hk : k < l.length) :
    ∃ ad, A = some ad ∧ ad.block < B ∧ w.cell? (ad.add (k * 2)) = some (.int .i64 l[k].nd) ∧ w.cell? ⟨(ad.add (k * 2)).block, (ad.add (k * 2)).off + 1, none⟩ = some (.int .i64 l[k].sg) := by
  obtain ⟨ad, e, hb, hc⟩ := h.thing (f := Vt.cells) (s := 2) (fun _ => rfl) (by omega) hk
  refine ⟨ad, e, hb, hc 0 _ rfl, ?_⟩
  rw [← add_pos _ _ _ (by omega)]; exact hc 1 _ rfl
/-- A certificate as it lies: it, and where its lists are. -/
structure Cs where
  c : Ct
  A1 : Option Addr
  c1 : Nat
  A2 : Option Addr
  c2 : Nat
def Cs.cells (x : Cs) : List Value := [.int .i64 x.c.vw, .int .i64 x.c.ins, .int .i64 x.c.sq, .slice x.A1 x.c.bt.length x.c1, .slice x.A2 x.c.vs.length x.c2]
structure Cs.In (w : World) (B : Nat) (x : Cs) : Prop where
  bt : Has w B x.A1 (reqCells x.c.bt)
  vs : Has w B x.A2 (voteCells x.c.vs)
/-- The slice at A reads as certificates. -/
def HasCerts (w : World) (B : Nat) (A : Option Addr) (l : List Ct) : Prop := ∃ L : List Cs, L.map Cs.c = l ∧ Has w B A (L.flatMap Cs.cells) ∧ ∀ x ∈ L, x.In w B
/-- A part as it lies. -/
structure Ps where
  p : Pt
  A1 : Option Addr
  c1 : Nat
  A2 : Option Addr
  c2 : Nat
def Ps.cells (x : Ps) : List Value := [.int .i64 x.p.fr, .slice x.A1 x.p.vs.length x.c1, .slice x.A2 x.p.cs.length x.c2, .int .i64 x.p.sg]
structure Ps.In (w : World) (B : Nat) (x : Ps) : Prop where
  vs : Has w B x.A1 (voteCells x.p.vs)
  cs : HasCerts w B x.A2 x.p.cs
def HasParts (w : World) (B : Nat) (A : Option Addr) (l : List Pt) : Prop := ∃ L : List Ps, L.map Ps.p = l ∧ Has w B A (L.flatMap Ps.cells) ∧ ∀ x ∈ L, x.In w B
/-- What reads in w reads so in w'. -/
def Reads (B B' : Nat) (w w' : World) : Prop := ∀ A xs, Has w B A xs → Has w' B' A xs
section
variable {w w' : World} {B B' : Nat}
theorem Cs.In.reads {x : Cs} (h : x.In w B) (hr : Reads B B' w w') : x.In w' B' := ⟨hr _ _ h.bt, hr _ _ h.vs⟩
theorem HasCerts.reads {A : Option Addr} {l : List Ct} (h : HasCerts w B A l) (hr : Reads B B' w w') : HasCerts w' B' A l := by
  obtain ⟨L, h1, h2, h3⟩ := h
  exact ⟨L, h1, hr _ _ h2, fun x hx => (h3 x hx).reads hr⟩
theorem Ps.In.reads {x : Ps} (h : x.In w B) (hr : Reads B B' w w') : x.In w' B' := ⟨hr _ _ h.vs, h.cs.reads hr⟩
theorem HasParts.reads {A : Option Addr} {l : List Pt} (h : HasParts w B A l) (hr : Reads B B' w w') : HasParts w' B' A l := by
  obtain ⟨L, h1, h2, h3⟩ := h
  exact ⟨L, h1, hr _ _ h2, fun x hx => (h3 x hx).reads hr⟩
theorem Reads.below (hb : Below B' w w') (hB : B ≤ B') : Reads B B w w' := fun _ _ h => h.below hb hB
theorem Reads.kept {g : Nat} {t : TypeId} (hk : Kept B g t w w') (hg : B ≤ g) : Reads B B w w' := fun _ _ h => hk.has hg h
theorem Reads.more (hB : B ≤ B') : Reads B B' w w := fun _ _ h => h.more hB
/-- A certificate of a row. -/
theorem HasCerts.at {A : Option Addr} {l : List Ct} (h : HasCerts w B A l) {k : Nat} (hk : k < l.length) :
    ∃ (ad : Addr) (x : Cs), A = some ad ∧ ad.block < B ∧ x.c = l[k] ∧ x.In w B ∧ w.cell? (ad.add (k * 5)) = some (.int .i64 x.c.vw) ∧ w.cell? ⟨(ad.add (k * 5)).block, (ad.add (k * 5)).off + 1, none⟩ = some (.int .i64 x.c.ins) ∧
      w.cell? ⟨(ad.add (k * 5)).block, (ad.add (k * 5)).off + 2, none⟩ = some (.int .i64 x.c.sq) ∧ w.cell? ⟨(ad.add (k * 5)).block, (ad.add (k * 5)).off + 3, none⟩ = some (.slice x.A1 x.c.bt.length x.c1) ∧
      w.cell? ⟨(ad.add (k * 5)).block, (ad.add (k * 5)).off + 4, none⟩ = some (.slice x.A2 x.c.vs.length x.c2) := by
  obtain ⟨L, rfl, h2, h3⟩ := h
  have hk' : k < L.length := by simpa using hk
  obtain ⟨ad, e, hb, hc⟩ := h2.thing (f := Cs.cells) (s := 5) (fun _ => rfl) (by omega) hk'
  refine ⟨ad, L[k], e, hb, by simp, h3 _ (List.getElem_mem hk'), hc 0 _ rfl, ?_, ?_, ?_, ?_⟩
  · rw [← add_pos _ _ _ (by omega)]; exact hc 1 _ rfl
  · rw [← add_pos _ _ _ (by omega)]; exact hc 2 _ rfl
  · rw [← add_pos _ _ _ (by omega)]; exact hc 3 _ rfl
  · rw [← add_pos _ _ _ (by omega)]; exact hc 4 _ rfl
theorem HasParts.at {A : Option Addr} {l : List Pt} (h : HasParts w B A l) {k : Nat} (hk : k < l.length) :
    ∃ (ad : Addr) (x : Ps), A = some ad ∧ ad.block < B ∧ x.p = l[k] ∧ x.In w B ∧ w.cell? (ad.add (k * 4)) = some (.int .i64 x.p.fr) ∧ w.cell? ⟨(ad.add (k * 4)).block, (ad.add (k * 4)).off + 1, none⟩ = some (.slice x.A1 x.p.vs.length x.c1) ∧
      w.cell? ⟨(ad.add (k * 4)).block, (ad.add (k * 4)).off + 2, none⟩ = some (.slice x.A2 x.p.cs.length x.c2) ∧ w.cell? ⟨(ad.add (k * 4)).block, (ad.add (k * 4)).off + 3, none⟩ = some (.int .i64 x.p.sg) := by
  obtain ⟨L, rfl, h2, h3⟩ := h
  have hk' : k < L.length := by simpa using hk
  obtain ⟨ad, e, hb, hc⟩ := h2.thing (f := Ps.cells) (s := 4) (fun _ => rfl) (by omega) hk'
  refine ⟨ad, L[k], e, hb, by simp, h3 _ (List.getElem_mem hk'), hc 0 _ rfl, ?_, ?_, ?_⟩
  · rw [← add_pos _ _ _ (by omega)]; exact hc 1 _ rfl
  · rw [← add_pos _ _ _ (by omega)]; exact hc 2 _ rfl
  · rw [← add_pos _ _ _ (by omega)]; exact hc 3 _ rfl
end
end Go.Proofs.YtbebfgfpdcdcoaaGreat
/- Arguments that came in: slices of requests, votes, certificates, parts, opened to cells. -/
namespace Go.Proofs.YtbebfgfpdcdcoaaGreat
open Go.RowKit Go.ChangeShapes Go.WideShapes Go.Deep

structure Rq.Fits (r : Rq) : Prop where
  cl : fit r.cl
  tm : fit r.tm
  kd : fit r.kd
  ky : fit r.ky
  vl : fit r.vl
  sg : fit r.sg
structure Vt.Fits (v : Vt) : Prop where
  nd : fit v.nd
  sg : fit v.sg
/-- A slice of requests that came in. -/
structure IsReqs (w : World) (A : Option Addr) (l : List Rq) (c : Nat) : Prop where
  le : l.length ≤ c
  most : c ≤ maxLen
  nil : A = none → c = 0
  has : Has w w.heap.size A (reqCells l)
  fits : ∀ x ∈ l, x.Fits
structure IsVotes (w : World) (A : Option Addr) (l : List Vt) (c : Nat) : Prop where
  le : l.length ≤ c
  most : c ≤ maxLen
  nil : A = none → c = 0
  has : Has w w.heap.size A (voteCells l)
  fits : ∀ x ∈ l, x.Fits
/-- A certificate whose lists came in. -/
structure Cs.Came (w : World) (x : Cs) : Prop where
  vw : fit x.c.vw
  ins : fit x.c.ins
  sq : fit x.c.sq
  bt : IsReqs w x.A1 x.c.bt x.c1
  vs : IsVotes w x.A2 x.c.vs x.c2
structure IsCerts (w : World) (A : Option Addr) (l : List Ct) (c : Nat) : Prop where
  le : l.length ≤ c
  most : c ≤ maxLen
  nil : A = none → c = 0
  lies : ∃ L : List Cs, L.map Cs.c = l ∧ Has w w.heap.size A (L.flatMap Cs.cells) ∧ ∀ x ∈ L, x.Came w
structure Ps.Came (w : World) (x : Ps) : Prop where
  fr : fit x.p.fr
  sg : fit x.p.sg
  vs : IsVotes w x.A1 x.p.vs x.c1
  cs : IsCerts w x.A2 x.p.cs x.c2
structure IsParts (w : World) (A : Option Addr) (l : List Pt) (c : Nat) : Prop where
  le : l.length ≤ c
  most : c ≤ maxLen
  nil : A = none → c = 0
  lies : ∃ L : List Ps, L.map Ps.p = l ∧ Has w w.heap.size A (L.flatMap Ps.cells) ∧ ∀ x ∈ L, x.Came w
theorem IsCerts.has {w : World} {A : Option Addr} {l : List Ct} {c : Nat} (h : IsCerts w A l c) : HasCerts w w.heap.size A l := by
  obtain ⟨L, h1, h2, h3⟩ := h.lies
  exact ⟨L, h1, h2, fun x hx => ⟨(h3 x hx).bt.has, (h3 x hx).vs.has⟩⟩
theorem IsParts.has {w : World} {A : Option Addr} {l : List Pt} {c : Nat} (h : IsParts w A l c) : HasParts w w.heap.size A l := by
  obtain ⟨L, h1, h2, h3⟩ := h.lies
  exact ⟨L, h1, h2, fun x hx => ⟨(h3 x hx).vs.has, (h3 x hx).cs.has⟩⟩

section
variable {H : Type} {enc : TypeId × Value → H} {P : Program} {w : World} {base : Nat} {held : Bool}
end
section
variable {H : Type} {enc : TypeId × Value → H} {w : World} {base : Nat} {held : Bool}
theorem trod_req {n : Nat} {cs : List Value} {z : DataW H × List MemPlace} (hl : cs.length = 6) (h : DataW.trod enc Tryz.prog w base (fun _ => true) held n 69 cs = some z) : ∃ r : Rq, cs = r.cells ∧ r.Fits := by
  match cs, hl with
  | [c0, c1, c2, c3, c4, c5], _ =>
    have k3 : Tryz.prog.cellsOf 3 = 1 := by kernel_rfl
    have k29 : Tryz.prog.cellsOf 67 = 3 := by kernel_rfl
    obtain ⟨xs, m, _, _, _, hxl, hf⟩ := DataW.trod_struct Tryz.underlying69 h
    have hxl : xs.length = 4 := hxl
    obtain ⟨y0, e0⟩ := at_field hf 0 3 0 1 rfl k3 (by omega)
    obtain ⟨y1, e1⟩ := at_field hf 1 3 1 1 rfl k3 (by omega)
    obtain ⟨y2, e2⟩ := at_field hf 2 67 2 3 rfl k29 (by omega)
    obtain ⟨y3, e3⟩ := at_field hf 3 3 5 1 rfl k3 (by omega)
    obtain ⟨a0, h0, f0⟩ := trod_i64 e0
    obtain ⟨a1, h1, f1⟩ := trod_i64 e1
    obtain ⟨a3, h3, f3⟩ := trod_i64 e3
    obtain ⟨xs2, m2, _, _, _, hxl2, hf2⟩ := DataW.trod_struct Tryz.underlying67 e2
    have hxl2 : xs2.length = 3 := hxl2
    obtain ⟨y4, e4⟩ := at_field hf2 0 3 0 1 rfl k3 (by omega)
    obtain ⟨y5, e5⟩ := at_field hf2 1 3 1 1 rfl k3 (by omega)
    obtain ⟨y6, e6⟩ := at_field hf2 2 3 2 1 rfl k3 (by omega)
    obtain ⟨a4, h4, f4⟩ := trod_i64 e4
    obtain ⟨a5, h5, f5⟩ := trod_i64 e5
    obtain ⟨a6, h6, f6⟩ := trod_i64 e6
    simp only [List.drop_zero, List.drop_succ_cons, List.take_succ_cons, List.take_zero] at h0 h1 h3 h4 h5 h6
    cases h0; cases h1; cases h3; cases h4; cases h5; cases h6
    exact ⟨⟨a0, a1, a4, a5, a6, a3⟩, rfl, ⟨f0, f1, f4, f5, f6, f3⟩⟩
theorem trod_op {n : Nat} {cs : List Value} {z : DataW H × List MemPlace} (hl : cs.length = 3) (h : DataW.trod enc Tryz.prog w base (fun _ => true) held n 67 cs = some z) : ∃ k y v : Int, cs = [.int .i64 k, .int .i64 y, .int .i64 v] ∧ fit k ∧ fit y ∧ fit v := by
  match cs, hl with
  | [c0, c1, c2], _ =>
    have k3 : Tryz.prog.cellsOf 3 = 1 := by kernel_rfl
    obtain ⟨xs, m, _, _, _, hxl, hf⟩ := DataW.trod_struct Tryz.underlying67 h
    have hxl : xs.length = 3 := hxl
    obtain ⟨y0, e0⟩ := at_field hf 0 3 0 1 rfl k3 (by omega)
    obtain ⟨y1, e1⟩ := at_field hf 1 3 1 1 rfl k3 (by omega)
    obtain ⟨y2, e2⟩ := at_field hf 2 3 2 1 rfl k3 (by omega)
    obtain ⟨a0, h0, f0⟩ := trod_i64 e0
    obtain ⟨a1, h1, f1⟩ := trod_i64 e1
    obtain ⟨a2, h2, f2⟩ := trod_i64 e2
    simp only [List.drop_zero, List.drop_succ_cons, List.take_succ_cons, List.take_zero] at h0 h1 h2
    cases h0; cases h1; cases h2
    exact ⟨a0, a1, a2, rfl, f0, f1, f2⟩
theorem trod_vote {n : Nat} {cs : List Value} {z : DataW H × List MemPlace} (hl : cs.length = 2) (h : DataW.trod enc Tryz.prog w base (fun _ => true) held n 65 cs = some z) : ∃ r : Vt, cs = r.cells ∧ r.Fits := by
  match cs, hl with
  | [c0, c1], _ =>
    have k3 : Tryz.prog.cellsOf 3 = 1 := by kernel_rfl
    obtain ⟨xs, m, _, _, _, hxl, hf⟩ := DataW.trod_struct Tryz.underlying65 h
    have hxl : xs.length = 2 := hxl
    obtain ⟨y0, e0⟩ := at_field hf 0 3 0 1 rfl k3 (by omega)
    obtain ⟨y1, e1⟩ := at_field hf 1 3 1 1 rfl k3 (by omega)
    obtain ⟨a0, h0, f0⟩ := trod_i64 e0
    obtain ⟨a1, h1, f1⟩ := trod_i64 e1
    simp only [List.drop_zero, List.drop_succ_cons, List.take_succ_cons, List.take_zero] at h0 h1
    cases h0; cases h1
    exact ⟨⟨a0, a1⟩, rfl, ⟨f0, f1⟩⟩
theorem open_reqs {n : Nat} {A : Option Addr} {len cap : Nat} {y : DataW H × List MemPlace} (h : DataW.trod enc Tryz.prog w base (fun _ => true) held n 22 [.slice A len cap] = some y) :
    ∃ l : List Rq, l.length = len ∧ IsReqs w A l cap := by
  obtain ⟨l, h1, h2, h3, h4, h5, h6⟩ := open_things (f := Rq.cells) (good := Rq.Fits) (s := 6) (fun _ => rfl) (by omega) Tryz.underlying22 (by kernel_rfl) (fun n cs z hl hz => trod_req hl hz) h
  exact ⟨l, h1, ⟨by omega, h3, h4, h5, h6⟩⟩
theorem open_votes {n : Nat} {A : Option Addr} {len cap : Nat} {y : DataW H × List MemPlace} (h : DataW.trod enc Tryz.prog w base (fun _ => true) held n 23 [.slice A len cap] = some y) :
    ∃ l : List Vt, l.length = len ∧ IsVotes w A l cap := by
  obtain ⟨l, h1, h2, h3, h4, h5, h6⟩ := open_things (f := Vt.cells) (good := Vt.Fits) (s := 2) (fun _ => rfl) (by omega) Tryz.underlying23 (by kernel_rfl) (fun n cs z hl hz => trod_vote hl hz) h
  exact ⟨l, h1, ⟨by omega, h3, h4, h5, h6⟩⟩
theorem trod_cert {n : Nat} {cs : List Value} {z : DataW H × List MemPlace} (hl : cs.length = 5) (h : DataW.trod enc Tryz.prog w base (fun _ => true) held n 25 cs = some z) : ∃ x : Cs, cs = x.cells ∧ x.Came w := by
  match cs, hl with
  | [c0, c1, c2, c3, c4], _ =>
    have k3 : Tryz.prog.cellsOf 3 = 1 := by kernel_rfl
    have kr : Tryz.prog.cellsOf 22 = 1 := by kernel_rfl
    have kv : Tryz.prog.cellsOf 23 = 1 := by kernel_rfl
    obtain ⟨xs, m, _, _, _, hxl, hf⟩ := DataW.trod_struct Tryz.underlying25 h
    have hxl : xs.length = 5 := hxl
    obtain ⟨y0, e0⟩ := at_field hf 0 3 0 1 rfl k3 (by omega)
    obtain ⟨y1, e1⟩ := at_field hf 1 3 1 1 rfl k3 (by omega)
    obtain ⟨y2, e2⟩ := at_field hf 2 3 2 1 rfl k3 (by omega)
    obtain ⟨y3, e3⟩ := at_field hf 3 22 3 1 rfl kr (by omega)
    obtain ⟨y4, e4⟩ := at_field hf 4 23 4 1 rfl kv (by omega)
    simp only [List.drop_zero, List.drop_succ_cons, List.take_succ_cons, List.take_zero] at e0 e1 e2 e3 e4
    obtain ⟨a0, h0, f0⟩ := trod_i64 e0
    obtain ⟨a1, h1, f1⟩ := trod_i64 e1
    obtain ⟨a2, h2, f2⟩ := trod_i64 e2
    obtain ⟨A3, l3, d3, h3⟩ := trod_is_slice Tryz.underlying22 e3
    obtain ⟨A4, l4, d4, h4⟩ := trod_is_slice Tryz.underlying23 e4
    cases h0; cases h1; cases h2; cases h3; cases h4
    obtain ⟨b, rfl, hb⟩ := open_reqs e3
    obtain ⟨v, rfl, hv⟩ := open_votes e4
    exact ⟨⟨⟨a0, a1, a2, b, v⟩, A3, d3, A4, d4⟩, rfl, ⟨f0, f1, f2, hb, hv⟩⟩
theorem open_certs {n : Nat} {A : Option Addr} {len cap : Nat} {y : DataW H × List MemPlace} (h : DataW.trod enc Tryz.prog w base (fun _ => true) held n 35 [.slice A len cap] = some y) :
    ∃ l : List Ct, l.length = len ∧ IsCerts w A l cap := by
  obtain ⟨L, h1, h2, h3, h4, h5, h6⟩ := open_things (f := Cs.cells) (good := Cs.Came w) (s := 5) (fun _ => rfl) (by omega) Tryz.underlying35 (by kernel_rfl) (fun n cs z hl hz => trod_cert hl hz) h
  exact ⟨L.map Cs.c, by simpa using h1, ⟨by simp; omega, h3, h4, L, rfl, h5, h6⟩⟩
theorem trod_part {n : Nat} {cs : List Value} {z : DataW H × List MemPlace} (hl : cs.length = 4) (h : DataW.trod enc Tryz.prog w base (fun _ => true) held n 73 cs = some z) : ∃ x : Ps, cs = x.cells ∧ x.Came w := by
  match cs, hl with
  | [c0, c1, c2, c3], _ =>
    have k3 : Tryz.prog.cellsOf 3 = 1 := by kernel_rfl
    have kr : Tryz.prog.cellsOf 23 = 1 := by kernel_rfl
    have kv : Tryz.prog.cellsOf 35 = 1 := by kernel_rfl
    obtain ⟨xs, m, _, _, _, hxl, hf⟩ := DataW.trod_struct Tryz.underlying73 h
    have hxl : xs.length = 4 := hxl
    obtain ⟨y0, e0⟩ := at_field hf 0 3 0 1 rfl k3 (by omega)
    obtain ⟨y1, e1⟩ := at_field hf 1 23 1 1 rfl kr (by omega)
    obtain ⟨y2, e2⟩ := at_field hf 2 35 2 1 rfl kv (by omega)
    obtain ⟨y3, e3⟩ := at_field hf 3 3 3 1 rfl k3 (by omega)
    simp only [List.drop_zero, List.drop_succ_cons, List.take_succ_cons, List.take_zero] at e0 e1 e2 e3
    obtain ⟨a0, h0, f0⟩ := trod_i64 e0
    obtain ⟨a3, h3, f3⟩ := trod_i64 e3
    obtain ⟨A1, l1, d1, h1⟩ := trod_is_slice Tryz.underlying23 e1
    obtain ⟨A2, l2, d2, h2⟩ := trod_is_slice Tryz.underlying35 e2
    cases h0; cases h1; cases h2; cases h3
    obtain ⟨v, rfl, hv⟩ := open_votes e1
    obtain ⟨c, rfl, hc⟩ := open_certs e2
    exact ⟨⟨⟨a0, v, c, a3⟩, A1, d1, A2, d2⟩, rfl, ⟨f0, f3, hv, hc⟩⟩
theorem open_parts {n : Nat} {A : Option Addr} {len cap : Nat} {y : DataW H × List MemPlace} (h : DataW.trod enc Tryz.prog w base (fun _ => true) held n 36 [.slice A len cap] = some y) :
    ∃ l : List Pt, l.length = len ∧ IsParts w A l cap := by
  obtain ⟨L, h1, h2, h3, h4, h5, h6⟩ := open_things (f := Ps.cells) (good := Ps.Came w) (s := 4) (fun _ => rfl) (by omega) Tryz.underlying36 (by kernel_rfl) (fun n cs z hl hz => trod_part hl hz) h
  exact ⟨L.map Ps.p, by simpa using h1, ⟨by simp; omega, h3, h4, L, rfl, h5, h6⟩⟩
end
end Go.Proofs.YtbebfgfpdcdcoaaGreat
/- Slices of votes: words of layer 4. -/
namespace Go.Proofs.YtbebfgfpdcdcoaaGreat
open Go.RowKit

theorem voteCells_app (l m : List Vt) : voteCells (l ++ m) = voteCells l ++ voteCells m := by simp [voteCells]
theorem voteCells_one (l : List Vt) : ∀ u ∈ voteCells l, u.oneCell' = true := by
  intro u hu
  obtain ⟨v, _, hv⟩ := List.mem_flatMap.1 hu
  simp [Vt.cells] at hv
  rcases hv with rfl | rfl <;> rfl
/-- A vote of a row. -/
theorem vote_at {w : World} {B : Nat} {A : Option Addr} {l : List Vt} (h : Has w B A (voteCells l)) {k : Nat} (hk : k < l.length) :
    ∃ ad, A = some ad ∧ ad.block < B ∧ w.cell? (ad.add (k * 2)) = some (.int .i64 l[k].nd) ∧ w.cell? ⟨(ad.add (k * 2)).block, (ad.add (k * 2)).off + 1, none⟩ = some (.int .i64 l[k].sg) := h.vote hk
end Go.Proofs.YtbebfgfpdcdcoaaGreat
/- The contract of keep.Within. -/
namespace Go.Proofs.YtbebfgfpdcdcoaaGreat
open Go.RowKit

/-- keep.Within's rest. -/
theorem tmod_cases {v n : Int} (hn : 1 ≤ n) (hv : v < 0) : -n < v.tmod n ∧ v.tmod n ≤ 0 ∧ v % n = if v.tmod n < 0 then v.tmod n + n else v.tmod n := by
  have h1 : v.tmod n = -((-v) % n) := by
    rw [← Int.neg_neg v, Int.neg_tmod, Int.neg_neg, Int.tmod_eq_emod_of_nonneg (by omega)]
  have h2 := Int.emod_nonneg (-v) (by omega : n ≠ 0)
  have h3 := Int.emod_lt_of_pos (-v) (by omega : 0 < n)
  refine ⟨by omega, by omega, ?_⟩
  have h4 : v = n * (-((-v) / n)) + v.tmod n := by
    have := Int.mul_ediv_add_emod (-v) n
    rw [h1, Int.mul_neg]; omega
  split
  · rename_i h5
    have h6 : v % n = (v.tmod n + n + n * (-((-v) / n) - 1)) % n := by
      congr 1
      rw [Int.mul_sub]; omega
    rw [h6, Int.add_mul_emod_self_left, Int.emod_eq_of_lt (by omega) (by omega)]
  · have h6 : v % n = (v.tmod n + n * (-((-v) / n))) % n := by
      congr 1
      omega
    rw [h6, Int.add_mul_emod_self_left, Int.emod_eq_of_lt (by omega) (by omega)]

set_option maxHeartbeats 400000 in
theorem within_any (v n : Int) (h0 : 1 ≤ n) (h1 : n ≤ 4611686018427387904) (hv : -9223372036854775808 ≤ v) (hv' : v ≤ 9223372036854775807) (w : World) :
    Calls Tryz.prog 12 #[.int .i64 v, .int .i64 n] w fun e w' => e = .returned (.int .i64 (v % n)) ∧ w = w' := by
  by_cases hs : 0 ≤ v
  · have hm := Int.emod_nonneg v (by omega : n ≠ 0)
    go_enter Tryz.func12, Tryz.ntmps12
    go_wp2
    go_ret
    exact ⟨rfl, rfl⟩
  · obtain ⟨hm0, hm1, hm2⟩ := tmod_cases h0 (by omega : v < 0)
    have HM := Lib.hid hm2
    clear hm2
    by_cases hc : v.tmod n < 0
    · have HE := Lib.hid (show v % n = v.tmod n + n by rw [HM.out, if_pos hc])
      go_enter Tryz.func12, Tryz.ntmps12
      go_wp2
      go_ret
      exact ⟨by rw [HE.out]; rfl, rfl⟩
    · have HE := Lib.hid (show v % n = v.tmod n by rw [HM.out, if_neg hc])
      go_enter Tryz.func12, Tryz.ntmps12
      go_wp2
      go_ret
      exact ⟨by rw [HE.out]; rfl, rfl⟩
end Go.Proofs.YtbebfgfpdcdcoaaGreat
/- The document's own numbers of nodes, its primary, its rising rows; the law's own row of votes. -/
namespace Go.Proofs.YtbebfgfpdcdcoaaGreat
open Go.RowKit

def nodesS (f : Int) : Int := if 1 ≤ f ∧ f ≤ 4 then 3 * f + 1 else 0
def quorumS (f : Int) : Int := if 1 ≤ f ∧ f ≤ 4 then 2 * f + 1 else 0
def weakS (f : Int) : Int := if 1 ≤ f ∧ f ≤ 4 then f + 1 else 0
def primaryS (f v i : Int) : Int := if (1 ≤ f ∧ f ≤ 4) ∧ 0 ≤ v ∧ v ≤ 12 ∧ 0 ≤ i ∧ i ≤ f then (v + i) % (3 * f + 1) else -1
theorem nodesS_in {f : Int} (h1 : 1 ≤ f) (h2 : f ≤ 4) : nodesS f = 3 * f + 1 := if_pos ⟨h1, h2⟩
theorem quorumS_in {f : Int} (h1 : 1 ≤ f) (h2 : f ≤ 4) : quorumS f = 2 * f + 1 := if_pos ⟨h1, h2⟩
theorem weakS_in {f : Int} (h1 : 1 ≤ f) (h2 : f ≤ 4) : weakS f = f + 1 := if_pos ⟨h1, h2⟩
theorem nodesS_out {f : Int} (h : f < 1 ∨ 4 < f) : nodesS f = 0 := if_neg (by omega)
theorem quorumS_out {f : Int} (h : f < 1 ∨ 4 < f) : quorumS f = 0 := if_neg (by omega)
theorem weakS_out {f : Int} (h : f < 1 ∨ 4 < f) : weakS f = 0 := if_neg (by omega)
theorem primaryS_in {f v i : Int} (h1 : 1 ≤ f) (h2 : f ≤ 4) (h3 : 0 ≤ v) (h4 : v ≤ 12) (h5 : 0 ≤ i) (h6 : i ≤ f) : primaryS f v i = (v + i) % (3 * f + 1) := if_pos ⟨⟨h1, h2⟩, h3, h4, h5, h6⟩
theorem primaryS_out {f v i : Int} (h : f < 1 ∨ 4 < f ∨ v < 0 ∨ 12 < v ∨ i < 0 ∨ f < i) : primaryS f v i = -1 := if_neg (by omega)

theorem rnodes_any (f : Int) (w : World) : Calls Tryz.prog 45 #[.int .i64 f] w fun e w' => e = .returned (.int .i64 (nodesS f)) ∧ w = w' := by
  by_cases h1 : f < 1
  · rw [nodesS_out (Or.inl h1)]
    go_enter Tryz.func45, Tryz.ntmps45
    go_wp2
    go_ret
    exact ⟨rfl, rfl⟩
  · have h1' : 1 ≤ f := by omega
    by_cases h2 : 4 < f
    · rw [nodesS_out (Or.inr h2)]
      go_enter Tryz.func45, Tryz.ntmps45
      go_wp2
      go_ret
      exact ⟨rfl, rfl⟩
    · have h2' : f ≤ 4 := by omega
      rw [nodesS_in h1' h2']
      go_enter Tryz.func45, Tryz.ntmps45
      go_wp2
      go_ret
      exact ⟨rfl, rfl⟩
theorem rquorum_any (f : Int) (w : World) : Calls Tryz.prog 48 #[.int .i64 f] w fun e w' => e = .returned (.int .i64 (quorumS f)) ∧ w = w' := by
  by_cases h1 : f < 1
  · rw [quorumS_out (Or.inl h1)]
    go_enter Tryz.func48, Tryz.ntmps48
    go_wp2
    go_ret
    exact ⟨rfl, rfl⟩
  · have h1' : 1 ≤ f := by omega
    by_cases h2 : 4 < f
    · rw [quorumS_out (Or.inr h2)]
      go_enter Tryz.func48, Tryz.ntmps48
      go_wp2
      go_ret
      exact ⟨rfl, rfl⟩
    · have h2' : f ≤ 4 := by omega
      rw [quorumS_in h1' h2']
      go_enter Tryz.func48, Tryz.ntmps48
      go_wp2
      go_ret
      exact ⟨rfl, rfl⟩
/-- The cases of a primary. -/
theorem primary_cases (f v i : Int) : (f < 1 ∨ 4 < f) ∨ ((1 ≤ f ∧ f ≤ 4) ∧ (v < 0 ∨ (0 ≤ v ∧ (12 < v ∨ (v ≤ 12 ∧ (i < 0 ∨ (0 ≤ i ∧ (f < i ∨ i ≤ f)))))))) := by omega
set_option maxHeartbeats 1000000 in
theorem rprimary_any (f v i : Int) (w : World) : Calls Tryz.prog 47 #[.int .i64 f, .int .i64 v, .int .i64 i] w fun e w' => e = .returned (.int .i64 (primaryS f v i)) ∧ w = w' := by
  rcases primary_cases f v i with h | ⟨⟨h1, h2⟩, h | ⟨h3, h | ⟨h4, h | ⟨h5, h | h6⟩⟩⟩⟩
  · rw [primaryS_out (by omega)]
    have HN := Lib.hid (rnodes_any f)
    rw [nodesS_out h] at HN
    clear h
    go_enter Tryz.func47, Tryz.ntmps47
    go_wp2_with fail
    refine (HN.out _).mono ?_
    rintro e w' ⟨rfl, rfl⟩
    go_wp2_with fail
    go_ret
    exact ⟨rfl, rfl⟩
  all_goals
    have HN := Lib.hid (rnodes_any f)
    rw [nodesS_in h1 h2] at HN
    have hp : ¬ (3 * f + 1 = 0) := by omega
  · rw [primaryS_out (by omega)]
    go_enter Tryz.func47, Tryz.ntmps47
    go_wp2_with fail
    refine (HN.out _).mono ?_
    rintro e w' ⟨rfl, rfl⟩
    go_wp2_with fail
    go_ret
    exact ⟨rfl, rfl⟩
  · rw [primaryS_out (by omega)]
    go_enter Tryz.func47, Tryz.ntmps47
    go_wp2_with fail
    refine (HN.out _).mono ?_
    rintro e w' ⟨rfl, rfl⟩
    go_wp2_with fail
    go_ret
    exact ⟨rfl, rfl⟩
  · rw [primaryS_out (by omega)]
    go_enter Tryz.func47, Tryz.ntmps47
    go_wp2_with fail
    refine (HN.out _).mono ?_
    rintro e w' ⟨rfl, rfl⟩
    go_wp2_with fail
    go_ret
    exact ⟨rfl, rfl⟩
  · rw [primaryS_out (by omega)]
    go_enter Tryz.func47, Tryz.ntmps47
    go_wp2_with fail
    refine (HN.out _).mono ?_
    rintro e w' ⟨rfl, rfl⟩
    go_wp2_with fail
    go_ret
    exact ⟨rfl, rfl⟩
  · rw [primaryS_in h1 h2 h3 h4 h5 h6]
    have t0 : (3 * f + 1 == 0) = false := by rw [beq_eq_false_iff_ne]; exact hp
    have t1 : decide (v < 0) = false := decide_eq_false (by omega)
    have t2 : decide (12 < v) = false := decide_eq_false (by omega)
    have t3 : decide (i < 0) = false := decide_eq_false (by omega)
    have t4 : decide (f < i) = false := decide_eq_false (by omega)
    go_enter Tryz.func47, Tryz.ntmps47
    go_wp2_with fail
    refine (HN.out _).mono ?_
    rintro e w' ⟨rfl, rfl⟩
    go_wp2_with fail
    refine (HN.out _).mono ?_
    rintro e w' ⟨rfl, rfl⟩
    go_wp2_with fail
    go_ret
    exact ⟨rfl, rfl⟩
end Go.Proofs.YtbebfgfpdcdcoaaGreat
/- The document's own rising rows. -/
namespace Go.Proofs.YtbebfgfpdcdcoaaGreat
open Go.RowKit

/-- Nodes that rise above a last one, below N. -/
def risesF (N : Int) : Int → List Vt → Bool
  | _, [] => true
  | last, v :: l => decide (last < v.nd ∧ v.nd < N) && risesF N v.nd l
def risingS (l : List Vt) (f : Int) : Bool := decide ((1 ≤ f ∧ f ≤ 4) ∧ (l.length : Int) = 2 * f + 1) && risesF (3 * f + 1) (-1) l
theorem rises_no {N last : Int} {v : Vt} {l r : List Vt} {k : Nat} (hd : l.drop k = v :: r) (h : ¬ (last < v.nd ∧ v.nd < N)) : risesF N last (l.drop k) = false := by
  rw [hd]; unfold risesF; rw [decide_eq_false h]; rfl
theorem rises_yes {N last : Int} {v : Vt} {l r : List Vt} {k : Nat} (hd : l.drop k = v :: r) (hr : l.drop (k + 1) = r) (h : last < v.nd ∧ v.nd < N) : risesF N last (l.drop k) = risesF N v.nd (l.drop (k + 1)) := by
  rw [hd, hr]
  show (decide (last < v.nd ∧ v.nd < N) && risesF N v.nd r) = _
  rw [decide_eq_true h]; rfl
theorem rising_out {l : List Vt} {f : Int} (h : f < 1 ∨ 4 < f ∨ (l.length : Int) ≠ 2 * f + 1) : risingS l f = false := by
  unfold risingS; rw [decide_eq_false (by omega)]; rfl
theorem rising_in {l : List Vt} {f : Int} (h1 : 1 ≤ f) (h2 : f ≤ 4) (h : (l.length : Int) = 2 * f + 1) : risingS l f = risesF (3 * f + 1) (-1) l := by
  unfold risingS; rw [decide_eq_true ⟨⟨h1, h2⟩, h⟩]; rfl

set_option maxHeartbeats 2000000 in
theorem rrising_any {w : World} {A : Option Addr} {n c B : Nat} {l : List Vt} (hh : Has w B A (voteCells l)) (hn : l.length = n) (hm : n ≤ maxLen) (f : Int) :
    Calls Tryz.prog 104 #[.slice A n c, .int .i64 f] w fun e w' => e = .returned (.bool (risingS l f)) ∧ ∃ m, w' = w.drewN m := by
  have HM := Lib.hid hm
  clear hm
  by_cases h1 : f < 1 ∨ 4 < f
  · rw [rising_out (by omega)]
    have HN := Lib.hid (rnodes_any f)
    rw [nodesS_out h1] at HN
    clear h1 hn
    go_enter Tryz.func104, Tryz.ntmps104
    go_wp2_with fail
    refine (HN.out _).mono ?_
    rintro e w' ⟨rfl, rfl⟩
    go_wp2_with fail
    go_ret
    exact ⟨rfl, 0, rfl⟩
  · have h2 : 1 ≤ f := by omega
    have h3 : f ≤ 4 := by omega
    have HN := Lib.hid (rnodes_any f)
    have HQ := Lib.hid (rquorum_any f)
    rw [nodesS_in h2 h3] at HN
    rw [quorumS_in h2 h3] at HQ
    have hp : ¬ (3 * f + 1 = 0) := by omega
    clear h1
    by_cases hl : (n : Int) = 2 * f + 1
    · have HR := Lib.hid (rising_in (l := l) h2 h3 (by rw [hn]; exact hl))
      have HH := Lib.hid hh
      have HL := Lib.hid hn
      have hl9 : n ≤ 9 := by omega
      clear hh hn
      go_enter Tryz.func104, Tryz.ntmps104
      go_wp2_with fail
      refine (HN.out _).mono ?_
      rintro e w' ⟨rfl, rfl⟩
      go_wp2_with fail
      refine (HQ.out _).mono ?_
      rintro e w' ⟨rfl, rfl⟩
      go_wp2_with fail
      go_loopw [5] (fun x wr => ∃ (k m : Nat) (last : Int), x = .int .i64 k ∧ k ≤ n ∧ Hid (wr = w.drewN m) ∧ Hid (risingS l f = risesF (3 * f + 1) last (l.drop k)) ∧ Hid ((k = 0 ∧ last = -1) ∨ (0 < k ∧ 0 ≤ last ∧ ∃ v, l[k - 1]? = some v ∧ v.nd = last))) (fun x _ => n - (intOf x).toNat)
      case atStart => exact ⟨0, 0, -1, rfl, Nat.zero_le _, rfl, HR.out, Or.inl ⟨rfl, rfl⟩⟩
      case round =>
        obtain ⟨k, m, last, rfl, hk, HW, HS, HP⟩ := hrel
        by_cases hlt : k < n
        · have hkl : k < l.length := by rw [HL.out]; exact hlt
          have hHr : Has wr B A (voteCells l) := by rw [HW.out]; exact HH.out.drewN m
          obtain ⟨ad, rfl, _, d0, d1⟩ := vote_at hHr hkl
          obtain ⟨v, hv⟩ : ∃ v, l[k] = v := ⟨_, rfl⟩
          rw [hv] at d0
          have HDr := Lib.hid (show l.drop k = v :: l.drop (k + 1) by rw [← hv]; exact List.drop_eq_getElem_cons hkl)
          have HNq := Lib.hid (fun q => (HN.out (wr.drewN q)).mono (R' := fun e w' => e = .returned (.int .i64 (3 * f + 1)) ∧ w' = wr.drewN q) (fun e w' he => ⟨he.1, he.2.symm⟩))
          have HV := Lib.hid (show l[k]? = some v by rw [List.getElem?_eq_getElem hkl, hv])
          clear hv d1 hkl
          by_cases c1 : v.nd < 0
          · have HF := Lib.hid (show risingS l f = false by rw [HS.out]; exact rises_no HDr.out (by rcases HP.out with ⟨_, h⟩ | ⟨_, h, _⟩ <;> omega))
            clear hHr
            go_wp2_with fail
            go_quiet ((go_at_call 45; exact Calls.quiet_of_same (HNq.out _)))
            go_wp2_with fail
            go_ret
            rw [HF.out]
            exact ⟨rfl, _, by rw [HW.out, World.drewN_drewN]⟩
          · have t1 : decide (v.nd < 0) = false := decide_eq_false c1
            by_cases c2 : 3 * f + 1 ≤ v.nd
            · have HF := Lib.hid (show risingS l f = false by rw [HS.out]; exact rises_no HDr.out (by omega))
              clear hHr c1
              go_wp2_with fail
              go_quiet ((go_at_call 45; exact Calls.quiet_of_same (HNq.out _)))
              go_wp2_with fail
              go_ret
              rw [HF.out]
              exact ⟨rfl, _, by rw [HW.out, World.drewN_drewN]⟩
            · have t2 : decide (3 * f + 1 ≤ v.nd) = false := decide_eq_false c2
              by_cases c3 : k = 0
              · have tk : decide (0 < k) = false := decide_eq_false (by omega)
                have HX := Lib.hid (show risingS l f = risesF (3 * f + 1) v.nd (l.drop (k + 1)) by rw [HS.out]; exact rises_yes HDr.out rfl (by rcases HP.out with ⟨_, h⟩ | ⟨h, _⟩ <;> omega))
                have HP2 := Lib.hid (show (0 : Int) ≤ v.nd by omega)
                clear hHr c1 c2 c3
                go_wp2_with fail
                go_quiet ((go_at_call 45; exact Calls.quiet_of_same (HNq.out _)))
                go_wp2_with fail
                go_roundw
                case rel => exact ⟨k + 1, m + nq, v.nd, by go_num, by omega, (show _ = _ by rw [HW.out, World.drewN_drewN]), HX.out, Or.inr ⟨by omega, HP2.out, v, HV.out, rfl⟩⟩
                case measure => simp [intOf]; omega
              · have hk0 : 0 < k := by omega
                obtain ⟨pv, hpv, hpl⟩ : ∃ v, l[k - 1]? = some v ∧ v.nd = last := by
                  rcases HP.out with ⟨h, _⟩ | ⟨_, _, h⟩
                  · omega
                  · exact h
                have hlast : 0 ≤ last := by rcases HP.out with ⟨h, _⟩ | ⟨_, h, _⟩ <;> omega
                obtain ⟨m1, hm1⟩ : ∃ m1, k - 1 = m1 := ⟨_, rfl⟩
                rw [hm1] at hpv
                have hm2 : (k : Int) - 1 = (m1 : Int) := by omega
                have hm3 : m1 < n := by omega
                obtain ⟨ad', he, _, p0, _⟩ := vote_at hHr (k := m1) (by rw [HL.out]; exact hm3)
                cases he
                rw [show l[m1]'(by rw [HL.out]; exact hm3) = pv from (List.getElem?_eq_some_iff.1 hpv).2, hpl] at p0
                have tk : decide (0 < (k : Int)) = true := decide_eq_true (by omega)
                clear hpl hpv hm1
                by_cases c4 : v.nd ≤ last
                · have HF := Lib.hid (show risingS l f = false by rw [HS.out]; exact rises_no HDr.out (by omega))
                  clear hHr c1 c2 c3
                  go_wp2_with fail
                  go_quiet ((go_at_call 45; exact Calls.quiet_of_same (HNq.out _)))
                  go_wp2_with fail
                  go_ret
                  rw [HF.out]
                  exact ⟨rfl, _, by rw [HW.out, World.drewN_drewN]⟩
                · have HX := Lib.hid (show risingS l f = risesF (3 * f + 1) v.nd (l.drop (k + 1)) by rw [HS.out]; exact rises_yes HDr.out rfl (by omega))
                  have HP2 := Lib.hid (show (0 : Int) ≤ v.nd by omega)
                  have t4 : decide (v.nd ≤ last) = false := decide_eq_false c4
                  clear hHr c1 c2 c3 c4
                  go_wp2_with fail
                  go_quiet ((go_at_call 45; exact Calls.quiet_of_same (HNq.out _)))
                  go_wp2_with fail
                  go_roundw
                  case rel => exact ⟨k + 1, m + nq, v.nd, by go_num, by omega, (show _ = _ by rw [HW.out, World.drewN_drewN]), HX.out, Or.inr ⟨by omega, HP2.out, v, HV.out, rfl⟩⟩
                  case measure => simp [intOf]; omega
        · have HF := Lib.hid (show risingS l f = true by rw [HS.out, List.drop_eq_nil_of_le (by rw [HL.out]; omega)]; rfl)
          go_wp2_with fail
          go_ret
          rw [HF.out]
          exact ⟨rfl, m, HW.out⟩
    · rw [rising_out (by rw [hn]; omega)]
      have t0 : ((n : Int) != 2 * f + 1) = true := by simpa using hl
      clear hn hh hl
      go_enter Tryz.func104, Tryz.ntmps104
      go_wp2_with fail
      refine (HN.out _).mono ?_
      rintro e w' ⟨rfl, rfl⟩
      go_wp2_with fail
      refine (HQ.out _).mono ?_
      rintro e w' ⟨rfl, rfl⟩
      go_wp2_with fail
      go_ret
      exact ⟨rfl, 0, rfl⟩
end Go.Proofs.YtbebfgfpdcdcoaaGreat
/- Messages: their fields as numbers, when they are of form. Nothing of the program. -/
namespace Go.Proofs.YtbebfgfpdcdcoaaGreat

structure Mg where
  (kd fr vw ins sq rs : Int)
  bt : List Rq
  vs : List Vt
  cs : List Ct
  ps : List Pt
deriving DecidableEq
def Mg.head (m : Mg) : List Tok := [.num m.kd, .num m.fr, .num m.vw, .num m.ins, .num m.sq, .sgn m.rs]
def Mg.toks (m : Mg) : List Tok := m.head ++ (listToks Rq.toks m.bt ++ (listToks Vt.toks m.vs ++ (listToks Ct.toks m.cs ++ listToks Pt.toks m.ps)))
/-- A message's bytes, or none. -/
def bodyM (m : Mg) : Option (List Int) := match bytesOf m.toks with
  | some bs => if bs.length ≤ 65536 then some bs else none
  | none => none
theorem bodyM_len {m : Mg} {bs : List Int} (h : bodyM m = some bs) : bs.length ≤ 65536 := by
  unfold bodyM at h
  split at h
  · split at h
    · cases h; assumption
    · cases h
  · cases h
/-- Nothing but what its kind has. -/
def blankS (v i s r b o c p : Bool) (m : Mg) : Bool :=
  (v || m.vw == 0) && (i || m.ins == 0) && (s || m.sq == 0) && (r || m.rs == 0) && (b || m.bt.length == 0) && (o || m.vs.length == 0) && (c || m.cs.length == 0) && (p || m.ps.length == 0)
def spotS (v i s f : Int) : Bool := decide (0 ≤ v ∧ v ≤ 12 ∧ 0 ≤ i ∧ i ≤ f ∧ 1 ≤ s ∧ s ≤ 16)
def fewS (l : List Rq) (n : Int) : Bool := decide (l.length ≤ 4) && l.all (fun r => validS r n)
def sealsS (l : List Vt) : Bool := l.all (fun v => decide (0 ≤ v.sg ∧ v.sg < 1099511627776))
def certS (f n : Int) (c : Ct) : Bool := spotS c.vw c.ins c.sq f && fewS c.bt n && risingS c.vs f && sealsS c.vs
/-- Is b behind a: by Inst, then Seq? -/
def behindS (a b : Ct) : Bool := decide (a.ins < b.ins ∨ (a.ins = b.ins ∧ a.sq < b.sq))
def upS : List Ct → Bool
  | a :: b :: l => behindS a b && upS (b :: l)
  | _ => true
def leavesS (view : Int) (vs : List Vt) (cs : List Ct) (f n : Int) : Bool :=
  decide (1 ≤ view ∧ view ≤ 12) && risingS vs f && sealsS vs && cs.all (fun c => certS f n c && decide (c.vw < view)) && upS cs
def riseP : List Pt → Bool
  | a :: b :: l => decide (a.fr < b.fr) && riseP (b :: l)
  | _ => true
def partS (view f n : Int) (p : Pt) : Bool := decide (0 ≤ p.fr ∧ p.fr < 3 * f + 1 ∧ 0 ≤ p.sg ∧ p.sg < 1099511627776) && leavesS view p.vs p.cs f n
def partsS (view : Int) (l : List Pt) (f n : Int) : Bool := decide ((l.length : Int) = 2 * f + 1) && l.all (partS view f n) && riseP l
theorem upS_next {l : List Ct} {k : Nat} {a b : Ct} {r : List Ct} (h1 : l.drop k = a :: b :: r) : upS (l.drop k) = (behindS a b && upS (l.drop (k + 1))) := by
  have : l.drop (k + 1) = b :: r := by rw [← List.drop_drop, h1]; rfl
  rw [h1, this]; rfl
theorem upS_last {l : List Ct} {k : Nat} (h : l.length ≤ k + 1) : upS (l.drop k) = true := by
  have hl : (l.drop k).length ≤ 1 := by rw [List.length_drop]; omega
  match l.drop k, hl with
  | [], _ => rfl
  | [_], _ => rfl
theorem riseP_next {l : List Pt} {k : Nat} {a b : Pt} {r : List Pt} (h1 : l.drop k = a :: b :: r) : riseP (l.drop k) = (decide (a.fr < b.fr) && riseP (l.drop (k + 1))) := by
  have : l.drop (k + 1) = b :: r := by rw [← List.drop_drop, h1]; rfl
  rw [h1, this]; rfl
theorem riseP_last {l : List Pt} {k : Nat} (h : l.length ≤ k + 1) : riseP (l.drop k) = true := by
  have hl : (l.drop k).length ≤ 1 := by rw [List.length_drop]; omega
  match l.drop k, hl with
  | [], _ => rfl
  | [_], _ => rfl
/-- A row all of which holds, one more at a time. -/
theorem all_next {α : Type} {p : α → Bool} {l : List α} {k : Nat} {x : α} (h : l[k]? = some x) : (l.take (k + 1)).all p = ((l.take k).all p && p x) := by
  rw [List.take_add_one, h, List.all_append]
  simp
theorem all_far {α : Type} {p : α → Bool} {l : List α} {k : Nat} {x : α} (h : l[k]? = some x) (hs : p x = false) : l.all p = false := by
  rw [List.all_eq_false]
  exact ⟨x, List.mem_of_getElem? h, by rw [hs]; simp⟩
def formS (m : Mg) (f n : Int) : Bool :=
  decide (1 ≤ f ∧ f ≤ 4) &&
  (if m.kd = 1 then blankS false false false false true false false false m && (match m.bt with | [r] => validS r n && decide (m.fr = 100 + r.cl) | _ => false)
  else decide (0 ≤ m.fr ∧ m.fr < 3 * f + 1) &&
    (if m.kd = 2 then blankS false false false false true false false false m && (match m.bt with | [r] => validS r n | _ => false)
    else if m.kd = 3 then blankS true true true false true false false false m && spotS m.vw m.ins m.sq f && fewS m.bt n && decide (m.bt ≠ []) && decide (m.fr = primaryS f m.vw m.ins)
    else if m.kd = 4 ∨ m.kd = 5 then blankS true true true false true false false false m && spotS m.vw m.ins m.sq f && fewS m.bt n
    else if m.kd = 6 then blankS true false false false false false false false m && decide (0 ≤ m.vw ∧ m.vw < 12)
    else if m.kd = 7 then blankS true false false false false true true false m && leavesS m.vw m.vs m.cs f n
    else if m.kd = 8 then blankS true true false false false false false true m && decide (1 ≤ m.vw ∧ m.vw ≤ 12 ∧ 0 ≤ m.ins ∧ m.ins ≤ f ∧ m.fr = primaryS f m.vw m.ins) && partsS m.vw m.ps f n
    else if m.kd = 9 then blankS false false false false false false true false m && (match m.cs with | [c] => certS f n c | _ => false)
    else if m.kd = 10 then blankS false true true true false false false false m && decide (0 ≤ m.ins ∧ m.ins < n ∧ 1 ≤ m.sq ∧ m.sq ≤ 1048576 ∧ -549755813888 < m.rs ∧ m.rs < 549755813888)
    else false))
end Go.Proofs.YtbebfgfpdcdcoaaGreat
/- A scope with several labels, to which the run jumps forth and back: what holds at each jump, and a measure that each pass lowers. -/
namespace Go.Proofs.YtbebfgfpdcdcoaaGreat

/-- As Q; by a goto to label l: J l. -/
def goes (J : Nat → Act → World → Prop) (Q : Exit → Act → World → Prop) : Exit → Act → World → Prop
  | .goto l, a, w => J l a w
  | e, a, w => Q e a w

theorem wp_scope_labels {P : Program} {a : Act} {w : World} {Q : Exit → Act → World → Prop} {c : Code} (J : Nat → Act → World → Prop) (μ : Nat → Act → World → Nat)
    (start : c.wp P (goes J Q) a w)
    (pass : ∀ l a w, J l a w → ∃ rest, findLabel c l = some rest ∧ rest.wp P (goes (fun l' a' w' => J l' a' w' ∧ μ l' a' w' < μ l a w) Q) a w) :
    (Code.scope c).wp P Q a w := by
  intro b k cs
  have go : ∀ n l a w, μ l a w = n → J l a w → ∃ rest, findLabel c l = some rest ∧ ∃ e a' w', Q e a' w' ∧ Arrives P (lone (b.at a (.code rest :: .inScope c :: k)) cs w) b k cs e a' w' := by
    intro n
    induction n using Nat.strongRecOn with
    | _ n ih =>
      intro l a w hn hJ
      obtain ⟨rest, hf, hp⟩ := pass l a w hJ
      refine ⟨rest, hf, ?_⟩
      obtain ⟨e, a1, w1, hq, har⟩ := hp b (.inScope c :: k) cs
      cases e with
      | goto m =>
        obtain ⟨hJ', hlt⟩ := hq
        obtain ⟨rest', hf', e', a2, w2, hq', har'⟩ := ih _ (hn ▸ hlt) m a1 w1 rfl hJ'
        exact ⟨e', a2, w2, hq', .of_steps (har (.code rest' :: .inScope c :: k) (by simp [gotoIn, hf'])) har'⟩
      | normal => exact ⟨.normal, a1, w1, hq, Steps.trans har (.one step_inScope)⟩
      | exit i => exact ⟨.exit i, a1, w1, hq, fun k' hk => har k' (by simp [exitTo, hk])⟩
      | ret => exact ⟨.ret, a1, w1, hq, har⟩
      | panic ps => exact ⟨.panic ps, a1, w1, hq, har⟩
      | outgrown => exact ⟨.outgrown, a1, w1, hq, har⟩
  obtain ⟨e, a1, w1, hq, har⟩ := start b (.inScope c :: k) cs
  cases e with
  | goto m =>
    obtain ⟨rest, hf, e', a2, w2, hq', har'⟩ := go _ m a1 w1 rfl hq
    exact ⟨e', a2, w2, hq', .of_steps (.head step_scope (har (.code rest :: .inScope c :: k) (by simp [gotoIn, hf]))) har'⟩
  | normal => exact ⟨.normal, a1, w1, hq, .head step_scope (Steps.trans har (.one step_inScope))⟩
  | exit i => exact ⟨.exit i, a1, w1, hq, fun k' hk => .head step_scope (har k' (by simp [exitTo, hk]))⟩
  | ret => exact ⟨.ret, a1, w1, hq, .of_steps (.one step_scope) har⟩
  | panic ps => exact ⟨.panic ps, a1, w1, hq, .of_steps (.one step_scope) har⟩
  | outgrown => exact ⟨.outgrown, a1, w1, hq, .of_steps (.one step_scope) har⟩

/-- The same, where the run also falls through labels: 'again' serves wherever what follows a label is met. -/
theorem wp_scope_fall {P : Program} {a : Act} {w : World} {Q : Exit → Act → World → Prop} {c : Code} (J : Nat → Act → World → Prop) (μ : Nat → Act → World → Nat)
    (pass : ∀ l a w, J l a w → ∃ R, findLabel c l = some (.seq .skip R) ∧ R.wp P (goes (fun l' a' w' => J l' a' w' ∧ μ l' a' w' < μ l a w) Q) a w)
    (start : (∀ l R a w, findLabel c l = some (.seq .skip R) → J l a w → R.wp P (goes J Q) a w) → c.wp P (goes J Q) a w) :
    (Code.scope c).wp P Q a w := by
  refine wp_scope_labels J μ (start fun l R a w hf hJ => ?_) fun l a w hJ => ?_
  · obtain ⟨R', hf', hp⟩ := pass l a w hJ
    rw [hf'] at hf
    injection hf with hf
    injection hf with _ hf
    subst hf
    refine Code.wp_mono ?_ hp
    intro e a' w' h
    cases e <;> first | exact h.1 | exact h
  · obtain ⟨R, hf, hp⟩ := pass l a w hJ
    exact ⟨_, hf, wp_seq (wp_skip hp)⟩

section
variable {J : Nat → Act → World → Prop} {Q : Exit → Act → World → Prop} {a : Act} {w : World}
@[go_sem] theorem goes_goto (l : Nat) : goes J Q (.goto l) a w = J l a w := rfl
@[go_sem] theorem goes_normal : goes J Q .normal a w = Q .normal a w := rfl
@[go_sem] theorem goes_exit (i : Nat) : goes J Q (.exit i) a w = Q (.exit i) a w := rfl
@[go_sem] theorem goes_ret : goes J Q .ret a w = Q .ret a w := rfl
@[go_sem] theorem goes_panic (ps : List PanicEntry) : goes J Q (.panic ps) a w = Q (.panic ps) a w := rfl
end
end Go.Proofs.YtbebfgfpdcdcoaaGreat
/- The contract of the document's Valid. -/
namespace Go.Proofs.YtbebfgfpdcdcoaaGreat
open Go.RowKit

def Rq.agg (r : Rq) : Value := .agg #[.int .i64 r.cl, .int .i64 r.tm, .int .i64 r.kd, .int .i64 r.ky, .int .i64 r.vl, .int .i64 r.sg]
theorem valid_no {r : Rq} {n : Int} (h : ¬ (0 ≤ r.cl ∧ r.cl < n ∧ 1 ≤ r.tm ∧ r.tm ≤ 1048576 ∧ 1 ≤ r.kd ∧ r.kd ≤ 5 ∧ 0 ≤ r.ky ∧ r.ky < 64 ∧ -2147483648 < r.vl ∧ r.vl < 2147483648 ∧ 0 ≤ r.sg ∧ r.sg < 1099511627776)) : validS r n = false := decide_eq_false (by omega)

set_option maxHeartbeats 4000000 in
set_option maxRecDepth 100000 in
theorem rvalid_any (r : Rq) (n : Int) (w : World) :
    Calls Tryz.prog 80 #[.agg #[.int .i64 r.cl, .int .i64 r.tm, .int .i64 r.kd, .int .i64 r.ky, .int .i64 r.vl, .int .i64 r.sg], .int .i64 n] w fun e w' => e = .returned (.bool (validS r n)) ∧ Below w.heap.size w w' := by
  go_enter Tryz.func80, Tryz.ntmps80
  go_wp2
  all_goals go_ret
  all_goals refine ⟨congrArg (fun b => Ending.returned (.bool b)) ?_, ((Below.refl _ _).alloc (Nat.le_refl _) _).alloc (by simp) _⟩
  all_goals (first | exact (decide_eq_false (by omega)).symm | exact (decide_eq_true (by omega)).symm | (rw [Bool.eq_iff_iff]; simp [validS]; omega))
end Go.Proofs.YtbebfgfpdcdcoaaGreat
/- A scope with labels, to which the run jumps forth only: at each jump what follows the label is walked anew. -/
namespace Go.Proofs.YtbebfgfpdcdcoaaGreat
open Go.RowKit

/-- As Q; by a goto to label l: what follows it, with one jump less to come. -/
def hops (P : Program) (F : Nat → Option Code) (Q : Exit → Act → World → Prop) : Nat → Exit → Act → World → Prop
  | 0, .goto _, _, _ => False
  | n + 1, .goto l, a, w => ∃ rest, F l = some rest ∧ rest.wp P (hops P F Q n) a w
  | _, e, a, w => Q e a w
section
variable {P : Program} {F : Nat → Option Code} {Q : Exit → Act → World → Prop} {n : Nat} {a : Act} {w : World}
@[go_sem] theorem hops_goto (l : Nat) : hops P F Q (n + 1) (.goto l) a w = ∃ rest, F l = some rest ∧ rest.wp P (hops P F Q n) a w := rfl
@[go_sem] theorem hops_normal : hops P F Q n .normal a w = Q .normal a w := by cases n <;> rfl
@[go_sem] theorem hops_exit (i : Nat) : hops P F Q n (.exit i) a w = Q (.exit i) a w := by cases n <;> rfl
@[go_sem] theorem hops_ret : hops P F Q n .ret a w = Q .ret a w := by cases n <;> rfl
@[go_sem] theorem hops_panic (ps : List PanicEntry) : hops P F Q n (.panic ps) a w = Q (.panic ps) a w := by cases n <;> rfl
theorem hops_outgrown : hops P F Q n .outgrown a w = Q .outgrown a w := by cases n <;> rfl
end
theorem wp_scope_hops {P : Program} {a : Act} {w : World} {Q : Exit → Act → World → Prop} {c : Code} (n : Nat)
    (h : ∀ F, Hid (F = findLabel c) → c.wp P (hops P F Q n) a w) : (Code.scope c).wp P Q a w := by
  have h := h (findLabel c) rfl
  intro b k cs
  have go : ∀ n l a w, hops P (findLabel c) Q n (.goto l) a w → ∃ rest, findLabel c l = some rest ∧ ∃ e a' w', Q e a' w' ∧ Arrives P (lone (b.at a (.code rest :: .inScope c :: k)) cs w) b k cs e a' w' := by
    intro n
    induction n with
    | zero => intro l a w hJ; exact hJ.elim
    | succ n ih =>
      intro l a w hJ
      obtain ⟨rest, hf, hp⟩ := hJ
      refine ⟨rest, hf, ?_⟩
      obtain ⟨e, a1, w1, hq, har⟩ := hp b (.inScope c :: k) cs
      cases e with
      | goto m =>
        obtain ⟨rest', hf', e', a2, w2, hq', har'⟩ := ih m a1 w1 hq
        exact ⟨e', a2, w2, hq', .of_steps (har (.code rest' :: .inScope c :: k) (by simp [gotoIn, hf'])) har'⟩
      | normal => rw [hops_normal] at hq; exact ⟨.normal, a1, w1, hq, Steps.trans har (.one step_inScope)⟩
      | exit i => rw [hops_exit] at hq; exact ⟨.exit i, a1, w1, hq, fun k' hk => har k' (by simp [exitTo, hk])⟩
      | ret => rw [hops_ret] at hq; exact ⟨.ret, a1, w1, hq, har⟩
      | panic ps => rw [hops_panic] at hq; exact ⟨.panic ps, a1, w1, hq, har⟩
      | outgrown => rw [hops_outgrown] at hq; exact ⟨.outgrown, a1, w1, hq, har⟩
  obtain ⟨e, a1, w1, hq, har⟩ := h b (.inScope c :: k) cs
  cases e with
  | goto m =>
    obtain ⟨rest, hf, e', a2, w2, hq', har'⟩ := go n m a1 w1 hq
    exact ⟨e', a2, w2, hq', .of_steps (.head step_scope (har (.code rest :: .inScope c :: k) (by simp [gotoIn, hf]))) har'⟩
  | normal => rw [hops_normal] at hq; exact ⟨.normal, a1, w1, hq, .head step_scope (Steps.trans har (.one step_inScope))⟩
  | exit i => rw [hops_exit] at hq; exact ⟨.exit i, a1, w1, hq, fun k' hk => .head step_scope (har k' (by simp [exitTo, hk]))⟩
  | ret => rw [hops_ret] at hq; exact ⟨.ret, a1, w1, hq, .of_steps (.one step_scope) har⟩
  | panic ps => rw [hops_panic] at hq; exact ⟨.panic ps, a1, w1, hq, .of_steps (.one step_scope) har⟩
  | outgrown => rw [hops_outgrown] at hq; exact ⟨.outgrown, a1, w1, hq, .of_steps (.one step_scope) har⟩
end Go.Proofs.YtbebfgfpdcdcoaaGreat
/- Messages: how they are taken, envelopes, what a writer that counts keeps. Nothing of the program. -/
namespace Go.Proofs.YtbebfgfpdcdcoaaGreat

/-- The bytes of a row of fields, if they are not too many. -/
def capped (ts : List Tok) : Option (List Int) := match bytesOf ts with
  | some bs => if bs.length ≤ 65536 then some bs else none
  | none => none
theorem bodyM_is (m : Mg) : bodyM m = capped m.toks := rfl
/-- A writer that holds these bytes, or is bad, takes more. -/
def gput : Option (List Int) → Option (List Int) → Option (List Int)
  | some a, some b => if a.length + b.length ≤ 65536 then some (a ++ b) else none
  | _, _ => none
theorem bytesOf_app (l m : List Tok) : bytesOf (l ++ m) = (match bytesOf l, bytesOf m with | some a, some b => some (a ++ b) | _, _ => none) := by
  unfold bytesOf
  rw [codes_app]
  cases codes l <;> cases codes m <;> simp [flat_app]
theorem capped_some {ts : List Tok} {bs : List Int} (h : bytesOf ts = some bs) : capped ts = if bs.length ≤ 65536 then some bs else none := by unfold capped; rw [h]
theorem capped_none {ts : List Tok} (h : bytesOf ts = none) : capped ts = none := by unfold capped; rw [h]
theorem gput_capped (ts us : List Tok) : gput (capped ts) (bytesOf us) = capped (ts ++ us) := by
  have ha := bytesOf_app ts us
  cases h1 : bytesOf ts with
  | none => rw [h1] at ha; rw [capped_none h1, capped_none ha]; rfl
  | some a =>
    cases h2 : bytesOf us with
    | none =>
      rw [h1, h2] at ha
      rw [capped_none ha]
      cases capped ts <;> rfl
    | some b =>
      rw [h1, h2] at ha
      rw [capped_some h1, capped_some ha]
      by_cases hl : a.length ≤ 65536
      · rw [if_pos hl]
        show (if a.length + b.length ≤ 65536 then some (a ++ b) else none) = _
        rw [List.length_append]
      · rw [if_neg hl, if_neg (by rw [List.length_append]; omega)]; rfl
theorem capped_nil : capped [] = some [] := rfl
theorem capped_len {ts : List Tok} {bs : List Int} (h : capped ts = some bs) : bs.length ≤ 65536 ∧ bytesOf ts = some bs := by
  unfold capped at h
  split at h
  · split at h
    · cases h; exact ⟨by assumption, by assumption⟩
    · cases h
  · cases h

/-- A taker of a message. -/
def tkMsg (zs : List Int) : Tkr Mg := fun i =>
  (tkNum zs i).bind fun a => (tkNum zs a.2).bind fun b => (tkNum zs b.2).bind fun c => (tkNum zs c.2).bind fun d => (tkNum zs d.2).bind fun e => (tkSgn zs e.2).bind fun f =>
    (tkBatch zs f.2).bind fun g => (tkVotes zs g.2).bind fun h => (tkCerts zs h.2).bind fun k => (tkParts zs k.2).bind fun l =>
      some (⟨a.1, b.1, c.1, d.1, e.1, f.1, g.1, h.1, k.1, l.1⟩, l.2)
/-- The message whose bytes these are. -/
def parseM (zs : List Int) : Option Mg := if zs.length ≤ 65536 then (match tkMsg zs 0 with | some (m, j) => if j = zs.length then some m else none | none => none) else none
theorem tells_msg {zs : List Int} (hz : ∀ z ∈ zs, 0 ≤ z ∧ z ≤ 255) : Tells zs (tkMsg zs) Mg.toks := by
  constructor
  · rintro ⟨x1, x2, x3, x4, x5, x6, x7, x8, x9, x10⟩ ns i j hc ha
    simp only [Mg.toks, Mg.head, List.cons_append, List.nil_append, codes_cons, codes_app_iff] at hc
    obtain ⟨n1, _, h1, ⟨n2, _, h2, ⟨n3, _, h3, ⟨n4, _, h4, ⟨n5, _, h5, ⟨n6, _, h6, ⟨m7, _, h7, ⟨m8, _, h8, ⟨m9, m10, h9, h10, rfl⟩, rfl⟩, rfl⟩, rfl⟩, rfl⟩, rfl⟩, rfl⟩, rfl⟩, rfl⟩ := hc
    obtain ⟨k1, a1, k2, a2, k3, a3, k4, a4, k5, a5, k6, a6, ha⟩ := ha
    obtain ⟨k7, a7, ha⟩ := At.app.1 ha
    obtain ⟨k8, a8, ha⟩ := At.app.1 ha
    obtain ⟨k9, a9, a10⟩ := At.app.1 ha
    obtain ⟨rfl, _⟩ := code_num.1 h1
    obtain ⟨rfl, _⟩ := code_num.1 h2
    obtain ⟨rfl, _⟩ := code_num.1 h3
    obtain ⟨rfl, _⟩ := code_num.1 h4
    obtain ⟨rfl, _⟩ := code_num.1 h5
    obtain rfl := code_sgn1 h6
    simp [tkMsg, tkNum, tkSgn, a1, a2, a3, a4, a5, a6, (tells_batch hz).fwd h7 a7, (tells_votes hz).fwd h8 a8, (tells_certs hz).fwd h9 a9, (tells_parts hz).fwd h10 a10]
  · intro x i j ht
    simp only [tkMsg, Option.bind_eq_some_iff] at ht
    obtain ⟨⟨x1, k1⟩, h1, ⟨x2, k2⟩, h2, ⟨x3, k3⟩, h3, ⟨x4, k4⟩, h4, ⟨x5, k5⟩, h5, ⟨x6, k6⟩, h6, ⟨x7, k7⟩, h7, ⟨x8, k8⟩, h8, ⟨x9, k9⟩, h9, ⟨x10, k10⟩, h10, h⟩ := ht
    injection h with h
    injection h with h h'
    subst h; subst h'
    obtain ⟨a1, b1, c1⟩ := (tells_num hz).back h1
    obtain ⟨a2, b2, c2⟩ := (tells_num hz).back h2
    obtain ⟨a3, b3, c3⟩ := (tells_num hz).back h3
    obtain ⟨a4, b4, c4⟩ := (tells_num hz).back h4
    obtain ⟨a5, b5, c5⟩ := (tells_num hz).back h5
    obtain ⟨a6, b6, c6⟩ := (tells_sgn hz).back h6
    obtain ⟨a7, b7, c7⟩ := (tells_batch hz).back h7
    obtain ⟨a8, b8, c8⟩ := (tells_votes hz).back h8
    obtain ⟨a9, b9, c9⟩ := (tells_certs hz).back h9
    obtain ⟨a10, b10, c10⟩ := (tells_parts hz).back h10
    refine ⟨a1 ++ (a2 ++ (a3 ++ (a4 ++ (a5 ++ (a6 ++ (a7 ++ (a8 ++ (a9 ++ a10)))))))), ?_, ?_⟩
    · simp only [Mg.toks, Mg.head, List.cons_append, List.nil_append]
      exact codes_app_some (l := [_]) b1 (codes_app_some (l := [_]) b2 (codes_app_some (l := [_]) b3 (codes_app_some (l := [_]) b4 (codes_app_some (l := [_]) b5 (codes_app_some (l := [_]) b6 (codes_app_some b7 (codes_app_some b8 (codes_app_some b9 b10))))))))
    · exact At.app.2 ⟨_, c1, At.app.2 ⟨_, c2, At.app.2 ⟨_, c3, At.app.2 ⟨_, c4, At.app.2 ⟨_, c5, At.app.2 ⟨_, c6, At.app.2 ⟨_, c7, At.app.2 ⟨_, c8, At.app.2 ⟨_, c9, c10⟩⟩⟩⟩⟩⟩⟩⟩⟩
/-- What is written is parsed as itself. -/
theorem parse_body {m : Mg} {bs : List Int} (h : bodyM m = some bs) : parseM bs = some m := by
  obtain ⟨h1, h2⟩ := capped_len h
  unfold parseM
  rw [if_pos h1, taken0 (f := tkMsg) (g := Mg.toks) (fun hz => tells_msg hz) h2]
  exact if_pos rfl
/-- What is parsed is written as just these bytes. -/
theorem body_parse {zs : List Int} (hz : ∀ z ∈ zs, 0 ≤ z ∧ z ≤ 255) {m : Mg} (h : parseM zs = some m) : bodyM m = some zs ∧ m.toks.length ≤ zs.length ∧ zs.length ≤ 65536 := by
  unfold parseM at h
  split at h
  · rename_i hl
    split at h
    · rename_i m' j hm
      split at h
      · rename_i hj
        injection h with h
        subst h
        obtain ⟨q, h1, _, h3, h4, h5⟩ := taken_back (f := tkMsg) (g := Mg.toks) (fun hz => tells_msg hz) hz (p := 0) (Nat.zero_le _) hm
        have hq : q = zs.length := by omega
        subst hq
        rw [List.drop_zero, Nat.sub_zero, List.take_length] at h4
        refine ⟨?_, by omega, hl⟩
        rw [bodyM_is, capped_some h4, if_pos hl]
      · cases h
    · cases h
  · cases h
theorem body_unlike {a b : Mg} {bs : List Int} (h1 : bodyM a = some bs) (h2 : bodyM b = some bs) : a = b := by
  have := parse_body h1
  rw [parse_body h2] at this
  injection this with this
  exact this.symm
/-- Bytes that are cut are no message; nor are bytes with one more. -/
theorem parse_cut {m : Mg} {bs : List Int} (h : bodyM m = some bs) {k : Nat} (hk : k < bs.length) : parseM (bs.take k) = none := by
  unfold parseM
  rw [cut_none (f := tkMsg) (g := Mg.toks) (fun hz => tells_msg hz) (capped_len h).2 hk]
  split <;> rfl
theorem parse_more {m : Mg} {bs : List Int} (h : bodyM m = some bs) {l : List Int} (hl : ∀ z ∈ l, 0 ≤ z ∧ z ≤ 255) (hne : l ≠ []) : parseM (bs ++ l) = none := by
  unfold parseM
  rw [taken (f := tkMsg) (g := Mg.toks) (fun hz => tells_msg hz) (capped_len h).2 l hl]
  have : l.length ≠ 0 := fun e => hne (List.length_eq_zero_iff.1 e)
  split
  · show (if ((bs.length : Nat) : Int) = ((bs ++ l).length : Nat) then some m else none) = none
    rw [if_neg (by rw [List.length_append]; omega)]
  · rfl
theorem parse_nil : parseM [] = none := by
  rfl
theorem body_u8 {m : Mg} {bs : List Int} (h : bodyM m = some bs) : ∀ z ∈ bs, 0 ≤ z ∧ z ≤ 255 := bytesOf_u8 (capped_len h).2
/-- An envelope's bytes, or none. -/
def envS (k : Int) (body : List Int) : Option (List Int) := gput (capped [.num k]) (some body)
end Go.Proofs.YtbebfgfpdcdcoaaGreat
/- The contracts of ballot's Nodes, Quorum, Weak, Primary; the document's examples. (Over ballot as it landed at d9f4045.) -/
namespace Go.Proofs.YtbebfgfpdcdcoaaGreat
open Go.RowKit

theorem ballow_in {f : Int} (h1 : 1 ≤ f) (h2 : f ≤ 4) (w : World) : Calls Tryz.prog 121 #[.int .i64 f] w fun e w' => e = .returned (.bool true) ∧ w = w' := by
  go_enter Tryz.func121, Tryz.ntmps121
  go_wp2
  go_ret
  exact ⟨rfl, rfl⟩
theorem ballow_out {f : Int} (h : f < 1 ∨ 4 < f) (w : World) : Calls Tryz.prog 121 #[.int .i64 f] w fun e w' => e = .returned (.bool false) ∧ w = w' := by
  by_cases h1 : f < 1
  · clear h
    go_enter Tryz.func121, Tryz.ntmps121
    go_wp2
    go_ret
    exact ⟨rfl, rfl⟩
  · have h1' : 1 ≤ f := by omega
    have h2' : ¬ f ≤ 4 := by omega
    clear h h1
    go_enter Tryz.func121, Tryz.ntmps121
    go_wp2
    go_ret
    exact ⟨rfl, rfl⟩
theorem bnodes_any (f : Int) (w : World) : Calls Tryz.prog 123 #[.int .i64 f] w fun e w' => e = .returned (.int .i64 (nodesS f)) ∧ w = w' := by
  by_cases h : f < 1 ∨ 4 < f
  · rw [nodesS_out h]
    have HA := Lib.hid (ballow_out h)
    clear h
    go_enter Tryz.func123, Tryz.ntmps123
    go_wp2_with fail
    refine (HA.out _).mono ?_
    rintro e w' ⟨rfl, rfl⟩
    go_wp2_with fail
    go_ret
    exact ⟨rfl, rfl⟩
  · have h1 : 1 ≤ f := by omega
    have h2 : f ≤ 4 := by omega
    rw [nodesS_in h1 h2]
    have HA := Lib.hid (ballow_in h1 h2)
    clear h
    go_enter Tryz.func123, Tryz.ntmps123
    go_wp2_with fail
    refine (HA.out _).mono ?_
    rintro e w' ⟨rfl, rfl⟩
    go_wp2_with fail
    go_ret
    exact ⟨rfl, rfl⟩
theorem bquorum_any (f : Int) (w : World) : Calls Tryz.prog 122 #[.int .i64 f] w fun e w' => e = .returned (.int .i64 (quorumS f)) ∧ w = w' := by
  by_cases h : f < 1 ∨ 4 < f
  · rw [quorumS_out h]
    have HA := Lib.hid (ballow_out h)
    clear h
    go_enter Tryz.func122, Tryz.ntmps122
    go_wp2_with fail
    refine (HA.out _).mono ?_
    rintro e w' ⟨rfl, rfl⟩
    go_wp2_with fail
    go_ret
    exact ⟨rfl, rfl⟩
  · have h1 : 1 ≤ f := by omega
    have h2 : f ≤ 4 := by omega
    rw [quorumS_in h1 h2]
    have HA := Lib.hid (ballow_in h1 h2)
    clear h
    go_enter Tryz.func122, Tryz.ntmps122
    go_wp2_with fail
    refine (HA.out _).mono ?_
    rintro e w' ⟨rfl, rfl⟩
    go_wp2_with fail
    go_ret
    exact ⟨rfl, rfl⟩
set_option maxHeartbeats 1000000 in
theorem bprimary_any (f v i : Int) (w : World) : Calls Tryz.prog 165 #[.int .i64 f, .int .i64 v, .int .i64 i] w fun e w' => e = .returned (.int .i64 (primaryS f v i)) ∧ w = w' := by
  rcases primary_cases f v i with h | ⟨⟨h1, h2⟩, h | ⟨h3, h | ⟨h4, h | ⟨h5, h | h6⟩⟩⟩⟩
  · rw [primaryS_out (by omega)]
    have HA := Lib.hid (ballow_out h)
    clear h
    go_enter Tryz.func165, Tryz.ntmps165
    go_wp2_with fail
    refine (HA.out _).mono ?_
    rintro e w' ⟨rfl, rfl⟩
    go_wp2_with fail
    go_ret
    exact ⟨rfl, rfl⟩
  all_goals
    have HA := Lib.hid (ballow_in h1 h2)
  · rw [primaryS_out (by omega)]
    go_enter Tryz.func165, Tryz.ntmps165
    go_wp2_with fail
    refine (HA.out _).mono ?_
    rintro e w' ⟨rfl, rfl⟩
    go_wp2_with fail
    go_ret
    exact ⟨rfl, rfl⟩
  · rw [primaryS_out (by omega)]
    go_enter Tryz.func165, Tryz.ntmps165
    go_wp2_with fail
    refine (HA.out _).mono ?_
    rintro e w' ⟨rfl, rfl⟩
    go_wp2_with fail
    go_ret
    exact ⟨rfl, rfl⟩
  · rw [primaryS_out (by omega)]
    go_enter Tryz.func165, Tryz.ntmps165
    go_wp2_with fail
    refine (HA.out _).mono ?_
    rintro e w' ⟨rfl, rfl⟩
    go_wp2_with fail
    go_ret
    exact ⟨rfl, rfl⟩
  · rw [primaryS_out (by omega)]
    go_enter Tryz.func165, Tryz.ntmps165
    go_wp2_with fail
    refine (HA.out _).mono ?_
    rintro e w' ⟨rfl, rfl⟩
    go_wp2_with fail
    go_ret
    exact ⟨rfl, rfl⟩
  · rw [primaryS_in h1 h2 h3 h4 h5 h6]
    have HN := Lib.hid (bnodes_any f)
    rw [nodesS_in h1 h2] at HN
    have hp : ¬ (3 * f + 1 = 0) := by omega
    have t0 : (3 * f + 1 == 0) = false := by rw [beq_eq_false_iff_ne]; exact hp
    have t1 : decide (v < 0) = false := decide_eq_false (by omega)
    have t2 : decide (12 < v) = false := decide_eq_false (by omega)
    have t3 : decide (i < 0) = false := decide_eq_false (by omega)
    have t4 : decide (f < i) = false := decide_eq_false (by omega)
    go_enter Tryz.func165, Tryz.ntmps165
    go_wp2_with fail
    refine (HA.out _).mono ?_
    rintro e w' ⟨rfl, rfl⟩
    go_wp2_with fail
    refine (HN.out _).mono ?_
    rintro e w' ⟨rfl, rfl⟩
    go_wp2_with fail
    go_ret
    exact ⟨rfl, rfl⟩

end Go.Proofs.YtbebfgfpdcdcoaaGreat
/- Regions that draw their order, only read, and hold guards: one operation at a time, behind a word of its own. -/
namespace Go.Proofs.YtbebfgfpdcdcoaaGreat
open Go.RowKit Go.Sort

/-- (Behind a word of its own: Lean would reckon the guards out at each step.) -/
structure Wq (P : Program) (ops : Array Oper) (C : World → Prop) (Q : Act → Prop) (l : List Oper) (a : Act) : Prop where
  out : wpQuiet P ops C Q l a
theorem wq_out {P : Program} {ops : Array Oper} {C : World → Prop} {Q : Act → Prop} {a : Act} {l : List Oper} (h : Wq P ops C Q l a) : wpQuiet P ops C Q l a := h.out
theorem wq_nil {P : Program} {ops : Array Oper} {C : World → Prop} {Q : Act → Prop} {a : Act} (h : Q a) : Wq P ops C Q [] a := ⟨wpQuiet_nil h⟩
theorem wq_do {P : Program} {ops : Array Oper} {C : World → Prop} {Q : Act → Prop} {a : Act} {o : Oper} {rest : List Oper} (hw : Region.wanted o (yielded ops a.tmps) = true)
    (h : ∀ K : Act → Prop, (∀ a, Wq P ops C Q rest a → K a) → o.quiet P a C K) : Wq P ops C Q (o :: rest) a := ⟨wpQuiet_step fun K hK => by rw [if_pos hw]; exact h K fun a hq => hK a hq.out⟩
theorem wq_skip {P : Program} {ops : Array Oper} {C : World → Prop} {Q : Act → Prop} {a : Act} {o : Oper} {rest : List Oper} (hw : Region.wanted o (yielded ops a.tmps) = false)
    (h : Wq P ops C Q rest (a.put o.dst undef)) : Wq P ops C Q (o :: rest) a := ⟨wpQuiet_step fun K hK => by rw [if_neg (by rw [hw]; exact Bool.false_ne_true)]; exact hK _ h.out⟩
end Go.Proofs.YtbebfgfpdcdcoaaGreat
/- Words on seals: the list of the deeds that have a seal, the map that reads as it, strings out of bytes. -/
namespace Go.Proofs.YtbebfgfpdcdcoaaGreat
open Go.RowKit Go.Maps

/-- What a seal belongs to: a party and a string. -/
abbrev Deed := Int × ByteArray
structure Deed.Fits (d : Deed) : Prop where
  party : fit d.1
  text : d.2.size ≤ maxLen
/-- Its place in a list (the list's length, where it isn't there). -/
def idx : List Deed → Deed → Nat
  | [], _ => 0
  | x :: l, d => if x = d then 0 else idx l d + 1
theorem idx_lt {d : Deed} : ∀ {l : List Deed}, d ∈ l → idx l d < l.length
  | x :: l, h => by
    unfold idx
    by_cases hx : x = d
    · rw [if_pos hx]; simp
    · rw [if_neg hx]
      have := idx_lt (l := l) (by rcases List.mem_cons.1 h with h | h; exact absurd h.symm hx; exact h)
      simp; omega
theorem idx_get {d : Deed} : ∀ {l : List Deed}, d ∈ l → l[idx l d]? = some d
  | x :: l, h => by
    unfold idx
    by_cases hx : x = d
    · rw [if_pos hx]; simp [hx]
    · rw [if_neg hx]
      have := idx_get (l := l) (by rcases List.mem_cons.1 h with h | h; exact absurd h.symm hx; exact h)
      simpa using this
theorem idx_not {d : Deed} : ∀ {l : List Deed}, d ∉ l → idx l d = l.length
  | [], _ => rfl
  | x :: l, h => by
    unfold idx
    rw [if_neg (fun e => h (by simp [e])), idx_not (l := l) (fun e => h (by simp [e]))]
    rfl
theorem idx_app {d : Deed} (m : List Deed) : ∀ {l : List Deed}, d ∈ l → idx (l ++ m) d = idx l d
  | x :: l, h => by
    show idx (x :: (l ++ m)) d = idx (x :: l) d
    unfold idx
    by_cases hx : x = d
    · rw [if_pos hx, if_pos hx]
    · rw [if_neg hx, if_neg hx, idx_app m (l := l) (by rcases List.mem_cons.1 h with h | h; exact absurd h.symm hx; exact h)]
theorem idx_new {d : Deed} : ∀ {l : List Deed}, d ∉ l → idx (l ++ [d]) d = l.length
  | [], _ => by simp [idx]
  | x :: l, h => by
    show idx (x :: (l ++ [d])) d = _
    unfold idx
    rw [if_neg (fun e => h (by simp [e])), idx_new (l := l) (fun e => h (by simp [e]))]
    rfl
instance deedIn (l : List Deed) (d : Deed) : Decidable (d ∈ l) :=
  decidable_of_iff (idx l d < l.length) ⟨fun h => Classical.byContradiction fun hn => by rw [idx_not hn] at h; omega, idx_lt⟩
/-- No deed twice: the place of the i-th is i. -/
theorem idx_at {d : Deed} {i : Nat} : ∀ {l : List Deed}, l.Nodup → l[i]? = some d → idx l d = i := by
  induction i with
  | zero =>
    intro l _ h
    cases l with
    | nil => simp at h
    | cons x l =>
      obtain rfl : x = d := by simpa using h
      simp [idx]
  | succ i ih =>
    intro l hn h
    cases l with
    | nil => simp at h
    | cons x l =>
      have h1 : l[i]? = some d := by simpa using h
      have hm : d ∈ l := List.mem_of_getElem? h1
      have hx : x ≠ d := fun e => (List.nodup_cons.1 hn).1 (e ▸ hm)
      unfold idx
      rw [if_neg hx, ih (List.nodup_cons.1 hn).2 h1]
/-- What Find tells, and what Seal does. -/
def findS (l : List Deed) (d : Deed) : Int := if d ∈ l then (idx l d : Int) + 1 else 0
def sealed (l : List Deed) (d : Deed) : List Deed := if d ∈ l then l else l ++ [d]
def sealS (l : List Deed) (d : Deed) : Int := (idx l d : Int) + 1
theorem findS_in {l : List Deed} {d : Deed} (h : d ∈ l) : findS l d = (idx l d : Int) + 1 := if_pos h
theorem findS_out {l : List Deed} {d : Deed} (h : d ∉ l) : findS l d = 0 := if_neg h
theorem sealed_in {l : List Deed} {d : Deed} (h : d ∈ l) : sealed l d = l := if_pos h
theorem sealed_out {l : List Deed} {d : Deed} (h : d ∉ l) : sealed l d = l ++ [d] := if_neg h
theorem sealS_out {l : List Deed} {d : Deed} (h : d ∉ l) : sealS l d = (l.length : Int) + 1 := by unfold sealS; rw [idx_not h]
theorem sealed_len (l : List Deed) (d : Deed) : (sealed l d).length ≤ l.length + 1 := by unfold sealed; split <;> simp
theorem sealed_nodup {l : List Deed} (h : l.Nodup) (d : Deed) : (sealed l d).Nodup := by
  unfold sealed
  split
  · exact h
  · rename_i hd
    exact List.nodup_append.2 ⟨h, by simp, fun a ha b hb => by rw [List.mem_singleton.1 hb]; exact fun e => hd (e ▸ ha)⟩
theorem sealed_fits {l : List Deed} (h : ∀ x ∈ l, x.Fits) {d : Deed} (hd : d.Fits) : ∀ x ∈ sealed l d, x.Fits := by
  unfold sealed
  split
  · exact h
  · intro x hx
    rcases List.mem_append.1 hx with hx | hx
    · exact h x hx
    · rw [List.mem_singleton.1 hx]; exact hd

/-! ### the key's type -/
theorem deed_laid : laidOutB Tryz.prog = true := by kernel_rfl
theorem deed_row : (161 : TypeId) < Tryz.prog.types.size := of_decide_eq_true (by kernel_rfl)
theorem deed_wide : (match Tryz.prog.underlying 161 with | some (.array _ _) | some (.struct _) => true | _ => false) = true := by kernel_rfl
set_option maxRecDepth 100000 in
theorem deed_law : Keyed Tryz.prog 161 := Keyed.of_law (deep_law_laid deed_laid (m := 3) (by omega) deed_row (by kernel_rfl) deed_wide)
theorem deed_type : Tryz.prog.keyType 161 = true := by kernel_rfl
theorem deed_cells : Tryz.prog.cellsOf 161 = 2 := by kernel_rfl
theorem deed_int : Tryz.prog.cellsOf 3 = 1 := by kernel_rfl
theorem deed_str : Tryz.prog.cellsOf 9 = 1 := by kernel_rfl
def Deed.val (d : Deed) : Value := .agg #[.int .i64 d.1, .string d.2]
def Deed.lit (d : Deed) : Lit := .string (keyBytes [.int .i64 d.1, .string d.2.data.toList])
set_option maxRecDepth 100000 in
theorem keyOf_deed {d : Deed} (h : d.Fits) : keyOf Tryz.prog 161 d.val = some d.lit := by
  obtain ⟨m, hm⟩ : ∃ m, Tryz.prog.types.size = m + 1 := ⟨Tryz.prog.types.size - 1, (Nat.succ_pred_eq_of_pos (Nat.lt_of_le_of_lt (Nat.zero_le _) deed_row)).symm⟩
  have h1 : (Lit.int .i64 d.1).wf = true := h.party
  have h2 := h.text
  unfold keyOf
  simp only [Tryz.underlying161]
  rw [if_pos (by simp [deed_type, Value.formed, Deed.val, Tryz.underlying161, deed_cells]), hm]
  unfold Program.keyLits
  simp only [Tryz.underlying161, Deed.val, Value.cells]
  rw [if_pos (by rw [deed_cells]; exact ⟨rfl, by decide +kernel⟩)]
  simp [List.mapM_cons, List.mapM_nil, deed_int, deed_str, Program.keyLits, Tryz.underlying3, Tryz.underlying9, h1, h2, Deed.lit]
theorem deed_inj {a b : Deed} (ha : a.Fits) (hb : b.Fits) (h : a.lit = b.lit) : a = b := by
  have h1 := deed_law.inj (keyOf_deed ha) (h ▸ keyOf_deed hb)
  unfold Deed.val at h1
  injection h1 with h1
  have h1 : #[Value.int IntKind.i64 a.1, Value.string a.2].toList = #[Value.int IntKind.i64 b.1, Value.string b.2].toList := by rw [h1]
  simp at h1
  exact Prod.ext h1.1 h1.2

/-! ### the map -/
abbrev i64D (z : Int) : DataW Unit := .lit (.int .i64 z)
/-- The map's datum tells just the list. -/
structure Book (D : DataW Unit) (l : List Deed) : Prop where
  has : ∀ d : Deed, d.Fits → Maps.has D d.lit = decide (d ∈ l)
  at_ : ∀ d : Deed, d.Fits → D.atKey d.lit (i64D 0) = i64D (findS l d)
  size : Maps.size D = l.length
theorem Book.empty : Book (.map []) [] := ⟨fun d _ => by simp [Maps.has], fun d _ => by simp [DataW.atKey, findS], rfl⟩
theorem lit_isKey {d : Deed} (h : d.Fits) : WideAt.IsKeyLit d.lit := deed_law.key (keyOf_deed h)
theorem Book.put {D : DataW Unit} {l : List Deed} (h : Book D l) (ht : Tidy D) {d : Deed} (hd : d.Fits) (hn : d ∉ l) : Book (D.put d.lit (i64D ((l.length : Int) + 1))) (l ++ [d]) := by
  have hm : IsMap D := ht.isMap
  refine ⟨fun x hx => ?_, fun x hx => ?_, ?_⟩
  · by_cases e : x = d
    · subst e
      rw [has_put_same hm (lit_isKey hx)]; simp
    · rw [has_put_other (fun he => e (deed_inj hx hd he)), h.has x hx]
      simp [e]
  · by_cases e : x = d
    · subst e
      rw [atKey_put_same hm (lit_isKey hx), findS_in (by simp), idx_new hn]
    · rw [atKey_put_other (fun he => e (deed_inj hx hd he)), h.at_ x hx]
      by_cases hx2 : x ∈ l
      · rw [findS_in hx2, findS_in (by simp [hx2]), idx_app _ hx2]
      · rw [findS_out hx2, findS_out (by simp [hx2, e])]
  · rw [size_put ht, h.has d hd, h.size]
    simp [hn]

/-! ### strings out of bytes -/
theorem conv_has {w : World} {B n c : Nat} {A : Option Addr} {zs : List Int} (h : Has w B A (u8s zs)) (hn : zs.length = n) :
    (convert 39 9 (.slice A n c)).run Tryz.prog w = .ok (.string (strOfNums zs)) w := by
  subst hn
  cases A with
  | none =>
    cases zs with
    | nil => rw [run_convert_bytes_nil w _ _ Tryz.underlying39 Tryz.underlying5 _ _ _ Tryz.underlying9]; rfl
    | cons z zs =>
      obtain ⟨_, hA, _⟩ := h 0 _ rfl
      cases hA
  | some ad =>
    have hl : (loadCells ad zs.length).run Tryz.prog w = .ok (zs.map (Value.int .u8)).toArray w := by
      have := run_loadCells_list (P := Tryz.prog) w ad (zs.map (Value.int .u8)) (fun j v hj => by
        obtain ⟨_, he, _, hc⟩ := h j v hj
        cases he
        exact hc)
      simpa using this
    rw [run_convert_bytes_string w _ _ _ _ _ _ Tryz.underlying39 Tryz.underlying5 Tryz.underlying9, run_bytesToString w _ _ _ zs hl, foldl_push_bytes]
    simp [strOfNums, ByteArray.empty, ByteArray.emptyWithCapacity]
    rfl
theorem str_size (zs : List Int) : (strOfNums zs).size = zs.length := by simp [strOfNums, ByteArray.size]
theorem str_eq (a b : ByteArray) : (a.toList == b.toList) = decide (a = b) := by
  rw [Go.ByteArray.toList_eq, Go.ByteArray.toList_eq]
  by_cases h : a = b
  · subst h; simp
  · rw [decide_eq_false h, beq_eq_false_iff_ne]
    exact fun e => h (WideShapes.bytes_inj e)
end Go.Proofs.YtbebfgfpdcdcoaaGreat
/- Heads and tails of slices of bytes; the deeds of messages. -/
namespace Go.Proofs.YtbebfgfpdcdcoaaGreat
open Go.RowKit

/-- Where a slice's rest lies. -/
def btailA (A : Option Addr) (c k : Nat) : Option Addr := if c = k then A else A.map fun x => x.add (k * 1)
set_option maxRecDepth 100000 in
theorem bslice_head {w : World} (A : Option Addr) {n c k : Nat} (h : k ≤ c) : (Instr.slice 39 (.slice A n c) none (some (.int .i64 k)) none).run Tryz.prog w = .ok (.slice A k c) w := by
  rw [run_slice_h w 39 A n c Tryz.underlying39 .i64 k (by omega) (by omega)]
  have : (sizeOf (Tryz.prog.elem 39)).run Tryz.prog w = .ok 1 w := by kernel_rfl
  rw [this]
  show Result.ok (sliced A 0 (k : Int).toNat c 1) w = _
  unfold sliced
  cases A with
  | none => simp
  | some a => simp [Addr.add]
set_option maxRecDepth 100000 in
theorem bslice_tail {w : World} (A : Option Addr) {n c k : Nat} (h : k ≤ n) : (Instr.slice 39 (.slice A n c) (some (.int .i64 k)) none none).run Tryz.prog w = .ok (.slice (btailA A c k) (n - k) (c - k)) w := by
  rw [run_slice_l w 39 A n c Tryz.underlying39 .i64 k (by omega) (by omega)]
  have : (sizeOf (Tryz.prog.elem 39)).run Tryz.prog w = .ok 1 w := by kernel_rfl
  rw [this]
  show Result.ok (sliced A (k : Int).toNat n c 1) w = _
  unfold sliced btailA
  simp
theorem u8s_drop (l : List Int) (k : Nat) : u8s (l.drop k) = (u8s l).drop k := by simp [u8s]
theorem u8s_take (l : List Int) (k : Nat) : u8s (l.take k) = (u8s l).take k := by simp [u8s]
theorem bhas_tail {w : World} {B c k : Nat} {A : Option Addr} {l : List Int} (h : Has w B A (u8s l)) (hc : l.length ≤ c) (hk : k ≤ l.length) : Has w B (btailA A c k) (u8s (l.drop k)) := fun j u hj => by
  unfold btailA
  by_cases e : c = k
  · rw [List.drop_eq_nil_of_le (by omega)] at hj
    simp [u8s] at hj
  · rw [if_neg e]
    rw [u8s_drop, List.getElem?_drop] at hj
    obtain ⟨ad, rfl, hb, hcell⟩ := h _ u hj
    refine ⟨ad.add (k * 1), rfl, by rw [addr_block]; exact hb, ?_⟩
    rw [Nat.mul_one, addr_add]; exact hcell
theorem bhas_head {w : World} {B k : Nat} {A : Option Addr} {l : List Int} (h : Has w B A (u8s l)) : Has w B A (u8s (l.take k)) := fun j u hj => by
  rw [u8s_take, List.getElem?_take] at hj
  split at hj
  · exact h j u hj
  · cases hj
theorem num_small {z : Int} (h1 : 0 ≤ z) (h2 : z < 1099511627776) : fit z := by unfold fit Lit.wf; simp [IntKind.min, IntKind.max, IntKind.signed, IntKind.bits]; omega
end Go.Proofs.YtbebfgfpdcdcoaaGreat
/- The contracts of keep.Same at bytes. -/
namespace Go.Proofs.YtbebfgfpdcdcoaaGreat
open Go.RowKit

def sameB (l m : List Int) : Bool := decide (l = m)

theorem take_snoc {l r : List Int} {k : Nat} {x : Int} (h : l.drop k = x :: r) : l.take (k + 1) = l.take k ++ [x] := by
  have hk : k < l.length := by
    rcases Nat.lt_or_ge k l.length with h1 | h1
    · exact h1
    · rw [List.drop_eq_nil_of_le h1] at h; cases h
  rw [List.drop_eq_getElem_cons hk] at h
  injection h with h1 _
  rw [List.take_succ_eq_append_getElem hk, h1]
theorem take_next {l m r q : List Int} {k : Nat} {x y : Int} (h : l.take k = m.take k) (h1 : l.drop k = x :: r) (h2 : m.drop k = y :: q) (e : x = y) : l.take (k + 1) = m.take (k + 1) := by
  rw [take_snoc h1, take_snoc h2, h, e]
theorem sameB_far {l m r q : List Int} {k : Nat} {x y : Int} (h1 : l.drop k = x :: r) (h2 : m.drop k = y :: q) (e : x ≠ y) : sameB l m = false := by
  unfold sameB
  rw [decide_eq_false_iff_not]
  rintro rfl
  rw [h1] at h2
  injection h2 with h3 _
  exact e h3
theorem sameB_end {l m : List Int} {k : Nat} (hk : l.length ≤ k) (h : l.take k = m.take k) (hl : l.length = m.length) : sameB l m = true := by
  unfold sameB
  rw [decide_eq_true_iff]
  rw [List.take_of_length_le hk, List.take_of_length_le (by omega)] at h
  exact h

set_option maxHeartbeats 400000 in
theorem same_quiet (A A' : Option Addr) (c c' : Nat) (zs ys : List Int) (B : Nat) (w : World) (hl : zs.length ≤ 9223372036854775806) (h1 : Has w B A (u8s zs)) (h2 : Has w B A' (u8s ys)) :
    Calls Tryz.prog 27 #[.slice A zs.length c, .slice A' ys.length c'] w fun e w' => e = .returned (.bool (sameB zs ys)) ∧ ∃ nq, w' = w.drewN nq := by
  have H1 := Lib.hid h1
  have H2 := Lib.hid h2
  clear h1 h2
  by_cases hlen : zs.length = ys.length
  · have HL := Lib.hid hlen
    go_enter Tryz.func27, Tryz.ntmps27
    go_wp2
    clear hlen
    go_loopw [5] (fun x wr => ∃ (k nq : Nat), x = .int .i64 k ∧ k ≤ zs.length ∧ wr = w.drewN nq ∧ Hid (zs.take k = ys.take k)) (fun x _ => zs.length - (intOf x).toNat)
    case atStart => exact ⟨0, 0, rfl, Nat.zero_le _, rfl, rfl⟩
    case round =>
      obtain ⟨k, nq, rfl, hk, rfl, HT⟩ := hrel
      by_cases hlt : k < zs.length
      · obtain ⟨a1, x1, rfl, _, hc1, hd1, _⟩ := H1.out.byte hlt
        obtain ⟨a2, x2, rfl, _, hc2, hd2, _⟩ := H2.out.byte (show k < ys.length by rw [← HL.out]; exact hlt)
        have hlt2 : k < ys.length := by rw [← HL.out]; exact hlt
        by_cases hx : (x1 != x2) = true
        · have HS := Lib.hid (sameB_far hd1 hd2 (by simpa using hx))
          clear hd1 hd2
          go_wp2
          go_quiet (fail)
          go_wp2
          go_ret
          exact ⟨by rw [HS.out]; rfl, ⟨_, World.drewN_drewN _ _ _⟩⟩
        · have hx' : (x1 != x2) = false := by simpa using hx
          have HT2 := Lib.hid (take_next HT.out hd1 hd2 (by simpa using hx))
          clear hd1 hd2 hx
          go_wp2
          go_quiet (fail)
          go_wp2
          go_roundw
          case rel => exact ⟨k + 1, _, by go_num, by omega, rfl, HT2.out⟩
          case measure => simp [intOf]; omega
      · have HS := Lib.hid (sameB_end (by omega : zs.length ≤ k) HT.out HL.out)
        go_wp2
        go_ret
        exact ⟨by rw [HS.out]; rfl, ⟨_, rfl⟩⟩
  · have HS := Lib.hid (show sameB zs ys = false by unfold sameB; rw [decide_eq_false_iff_not]; rintro rfl; exact hlen rfl)
    have hb : decide (zs.length = ys.length) = false := by simpa using hlen
    have hb2 : ((zs.length : Int) != ys.length) = true := by simp; omega
    go_enter Tryz.func27, Tryz.ntmps27
    go_wp2
    go_ret
    exact ⟨by rw [HS.out]; rfl, ⟨0, rfl⟩⟩
theorem same_any (A A' : Option Addr) (c c' : Nat) (zs ys : List Int) (B : Nat) (w : World) (hl : zs.length ≤ 9223372036854775806) (h1 : Has w B A (u8s zs)) (h2 : Has w B A' (u8s ys)) :
    Calls Tryz.prog 27 #[.slice A zs.length c, .slice A' ys.length c'] w fun e w' => e = .returned (.bool (sameB zs ys)) ∧ Below w.heap.size w w' :=
  (same_quiet A A' c c' zs ys B w hl h1 h2).mono fun e w' ⟨he, n, hw⟩ => ⟨he, by subst hw; exact below_drewN (Below.refl _ _) _⟩
/-- The same, the lengths by name and the answer known. -/
theorem same_is {A A' : Option Addr} {c c' la lb : Nat} {zs ys : List Int} {B : Nat} {r : Bool} (ha : zs.length = la) (hb : ys.length = lb) (hl : la ≤ 9223372036854775806) (hr : sameB zs ys = r) (w : World) (h1 : Has w B A (u8s zs)) (h2 : Has w B A' (u8s ys)) :
    Calls Tryz.prog 27 #[.slice A la c, .slice A' lb c'] w fun e w' => e = .returned (.bool r) ∧ ∃ nq, w' = w.drewN nq := by
  subst ha; subst hb; subst hr
  exact same_quiet A A' c c' zs ys B w hl h1 h2
theorem own_caps {w : World} {base n c : Nat} {e : TypeId} {size : Nat} {A : Option Addr} {xs : List Value} (h : w.ownsRow base e size (.slice A n c) n xs) : n ≤ c ∧ c ≤ maxLen := by
  obtain ⟨A', c', hv, h1, h2⟩ := own_slice h
  injection hv with _ _ hc
  omega
end Go.Proofs.YtbebfgfpdcdcoaaGreat
/- The law's own row: votes of a quorum, by rising nodes. -/
namespace Go.Proofs.YtbebfgfpdcdcoaaGreat
open Go.RowKit

/-- How many are marked. -/
def cnt : List Bool → Nat
  | [] => 0
  | b :: l => (if b then 1 else 0) + cnt l
theorem cnt_set : ∀ {l : List Bool} {k : Nat}, l[k]? = some false → cnt (l.set k true) = cnt l + 1
  | b :: l, 0, h => by
    obtain rfl : b = false := by simpa using h
    simp [cnt]; omega
  | b :: l, k + 1, h => by
    have := cnt_set (l := l) (k := k) (by simpa using h)
    simp only [List.set_cons_succ, cnt, this]; omega
theorem cnt_le : ∀ (l : List Bool), cnt l ≤ l.length
  | [] => Nat.le_refl _
  | b :: l => by
    have := cnt_le l
    simp only [cnt, List.length_cons]
    cases b <;> simp <;> omega
theorem cnt_full : ∀ {l : List Bool}, (∀ k, k < l.length → l[k]? = some true) → cnt l = l.length
  | [], _ => rfl
  | b :: l, h => by
    have h0 := h 0 (by simp)
    obtain rfl : b = true := by simpa using h0
    have := cnt_full (l := l) (fun k hk => by simpa using h (k + 1) (by simpa using hk))
    simp [cnt, this]; omega
theorem cnt_app (l m : List Bool) : cnt (l ++ m) = cnt l + cnt m := by
  induction l with
  | nil => simp [cnt]
  | cons b l ih => simp only [List.cons_append, cnt, ih]; omega
theorem cnt_next {l : List Bool} {k : Nat} {b : Bool} (h : l[k]? = some b) : cnt (l.take (k + 1)) = cnt (l.take k) + (if b then 1 else 0) := by
  rw [List.take_add_one, h, cnt_app]
  simp [cnt]
theorem cnt_mono (l : List Bool) (k n : Nat) (h : k ≤ n) : cnt (l.take k) ≤ cnt (l.take n) := by
  have : l.take k = (l.take n).take k := by rw [List.take_take, Nat.min_eq_left h]
  rw [this]
  have h2 : cnt (l.take n) = cnt ((l.take n).take k) + cnt ((l.take n).drop k) := by rw [← cnt_app, List.take_append_drop]
  omega
def boolCells (l : List Bool) : Array Value := (l.map Value.bool).toArray
theorem boolCells_get {l : List Bool} {k : Nat} {b : Bool} (h : l[k]? = some b) : (boolCells l)[k]? = some (.bool b) := by simp [boolCells, h]
theorem boolCells_set (l : List Bool) (k : Nat) (b : Bool) : (boolCells l).setIfInBounds k (.bool b) = boolCells (l.set k b) := by simp [boolCells, List.map_set]
/-- A row with a last vote more rises still. -/
theorem rises_app {N : Int} {v : Vt} (hv : v.nd < N) : ∀ {l : List Vt} {last : Int}, risesF N last l = true → (∀ x ∈ l, x.nd < v.nd) → last < v.nd → risesF N last (l ++ [v]) = true
  | [], last, _, _, h => by simp [risesF, h, hv]
  | x :: l, last, h, ha, hl => by
    simp only [risesF, Bool.and_eq_true] at h
    have := rises_app hv (l := l) (last := x.nd) h.2 (fun y hy => ha y (by simp [hy])) (ha x (by simp))
    simp only [List.cons_append, risesF, Bool.and_eq_true]
    exact ⟨h.1, this⟩
theorem got {l : List Bool} {k : Nat} (h : k < l.length) : ∃ b, l[k]? = some b := ⟨l[k], List.getElem?_eq_getElem h⟩
theorem info_vote : (Tryz.prog.info? 65).map (fun i => (i.zero, i.size, i.bytes)) = some (some (.agg #[.int .i64 0, .int .i64 0]), 2, 16) := by kernel_rfl

end Go.Proofs.YtbebfgfpdcdcoaaGreat
/- The contract of keep.HeavyCerts: whether there are more than so many certificates, or one of them has more than so many requests or votes. -/
namespace Go.Proofs.YtbebfgfpdcdcoaaGreat
open Go.RowKit

def lightC (c : Ct) : Bool := decide (c.bt.length ≤ 12 ∧ c.vs.length ≤ 30)
def heavyC (l : List Ct) : Bool := !(decide (l.length ≤ 20) && l.all lightC)
theorem heavyC_len {l : List Ct} (h : 20 < l.length) : heavyC l = true := by
  simp [heavyC]; omega
theorem heavyC_one {l : List Ct} {k : Nat} (hk : k < l.length) (h : lightC l[k] = false) : heavyC l = true := by
  unfold heavyC
  rw [Bool.not_eq_true', Bool.and_eq_false_iff]
  refine Or.inr ?_
  rw [List.all_eq_false]
  exact ⟨l[k], List.getElem_mem hk, by simp [h]⟩
theorem heavyC_no {l : List Ct} (h1 : l.length ≤ 20) (h2 : (l.take l.length).all lightC = true) : heavyC l = false := by
  rw [List.take_length] at h2
  simp [heavyC, h1, h2]
theorem all_more {l : List Ct} {k : Nat} (hk : k < l.length) (h : (l.take k).all lightC = true) (h2 : lightC l[k] = true) : (l.take (k + 1)).all lightC = true := by
  rw [List.take_succ_eq_append_getElem hk, List.all_append]
  simp [h, h2]
theorem light_of {l : List Ct} (h : heavyC l = false) : l.length ≤ 20 ∧ ∀ c ∈ l, c.bt.length ≤ 12 ∧ c.vs.length ≤ 30 := by
  simp only [heavyC, Bool.not_eq_false', Bool.and_eq_true, decide_eq_true_eq, List.all_eq_true] at h
  exact ⟨h.1, fun c hc => by have := h.2 c hc; simpa [lightC] using this⟩

set_option maxHeartbeats 1000000 in
theorem heavy_certs (A : Option Addr) (c : Nat) (l : List Ct) (B : Nat) (w : World) (hh : HasCerts w B A l) :
    Calls Tryz.prog 37 #[.slice A l.length c] w fun e w' => e = .returned (.bool (heavyC l)) ∧ w = w' := by
  have HH := Lib.hid hh
  clear hh
  by_cases hlen : 20 < l.length
  · have HE := Lib.hid (heavyC_len hlen)
    go_enter Tryz.func37, Tryz.ntmps37
    go_wp2
    go_ret
    exact ⟨by rw [HE.out]; rfl, rfl⟩
  · have hle : l.length ≤ 20 := by omega
    go_enter Tryz.func37, Tryz.ntmps37
    go_wp2
    go_loop [3] (fun x => ∃ k : Nat, x = .int .i64 k ∧ k ≤ l.length ∧ Hid ((l.take k).all lightC = true)) (fun x => l.length - (intOf x).toNat)
    case atStart => exact ⟨0, rfl, Nat.zero_le _, rfl⟩
    case round =>
      obtain ⟨k, rfl, hk, HT⟩ := hrel
      by_cases hlt : k < l.length
      · obtain ⟨ad, x, rfl, _, hx, ix, c0, c1, c2, c3, c4⟩ := HH.out.at hlt
        have HX := Lib.hid hx
        clear hx
        by_cases h1 : 12 < x.c.bt.length
        · have HE := Lib.hid (heavyC_one hlt (by rw [← HX.out]; simp [lightC]; omega))
          go_wp2
          go_ret
          exact ⟨by rw [HE.out]; rfl, rfl⟩
        · have h1' : x.c.bt.length ≤ 12 := by omega
          by_cases h2 : 30 < x.c.vs.length
          · have HE := Lib.hid (heavyC_one hlt (by rw [← HX.out]; simp [lightC]; omega))
            go_wp2
            go_ret
            exact ⟨by rw [HE.out]; rfl, rfl⟩
          · have h2' : x.c.vs.length ≤ 30 := by omega
            have HE := Lib.hid (all_more hlt HT.out (by rw [← HX.out]; simp [lightC]; omega))
            go_wp2
            go_round
            case rel => exact ⟨k + 1, by go_num, by omega, HE.out⟩
            case measure => simp [intOf]; omega
      · have hke : k = l.length := by omega
        subst hke
        have HE := Lib.hid (heavyC_no hle HT.out)
        go_wp2
        go_ret
        exact ⟨by rw [HE.out]; rfl, rfl⟩
end Go.Proofs.YtbebfgfpdcdcoaaGreat
/- Plain: how many fields a light list has. -/
namespace Go.Proofs.YtbebfgfpdcdcoaaGreat

theorem flatMap_le {α β : Type} {f : α → List β} {s : Nat} : ∀ {l : List α}, (∀ x ∈ l, (f x).length ≤ s) → (l.flatMap f).length ≤ l.length * s
  | [], _ => by simp
  | x :: l, h => by
    have h1 := h x (List.mem_cons_self ..)
    have h2 := flatMap_le (l := l) fun y hy => h y (List.mem_cons_of_mem _ hy)
    rw [List.flatMap_cons, List.length_append, List.length_cons, Nat.succ_mul]
    omega
theorem reqs_toks (l : List Rq) : (listToks Rq.toks l).length = 1 + 6 * l.length := by
  have h2 : (l.flatMap Rq.toks).length = l.length * 6 := flatMap_len (s := 6) (f := Rq.toks) (fun _ => rfl) _
  simp [listToks, h2]; omega
theorem votes_toks (l : List Vt) : (listToks Vt.toks l).length = 1 + 2 * l.length := by
  have h2 : (l.flatMap Vt.toks).length = l.length * 2 := flatMap_len (s := 2) (f := Vt.toks) (fun _ => rfl) _
  simp [listToks, h2]; omega
theorem cert_toks (c : Ct) : c.toks.length = 5 + 6 * c.bt.length + 2 * c.vs.length := by
  simp [Ct.toks, reqs_toks, votes_toks]; omega
theorem part_toks (p : Pt) : p.toks.length = 3 + 2 * p.vs.length + (listToks Ct.toks p.cs).length := by
  simp [Pt.toks, votes_toks]; omega
theorem certs_toks {l : List Ct} (h : heavyC l = false) : (listToks Ct.toks l).length ≤ 2741 := by
  obtain ⟨h1, h2⟩ := light_of h
  have h3 : (l.flatMap Ct.toks).length ≤ l.length * 137 := flatMap_le fun c hc => by
    have := h2 c hc
    rw [cert_toks]; omega
  have h4 : l.length * 137 ≤ 20 * 137 := Nat.mul_le_mul_right _ h1
  simp only [listToks, List.length_cons]
  omega
end Go.Proofs.YtbebfgfpdcdcoaaGreat
/- The contract of the document's has: is a sign one of a text's? -/
namespace Go.Proofs.YtbebfgfpdcdcoaaGreat
open Go.RowKit

set_option maxHeartbeats 1000000 in
set_option maxRecDepth 100000 in
theorem rsign_any (s : ByteArray) (c : Nat) (hs : s.size ≤ 9223372036854775806) (w : World) :
    Calls Tryz.prog 128 #[.string s, .int .u8 c] w fun e w' => e = .returned (.bool (s.data.toList.any fun x => ((x.toNat : Int) == (c : Int)))) ∧ w' = w := by
  go_enter Tryz.func128, Tryz.ntmps128
  go_wp2_with fail
  go_loopw [5] (fun x wr => ∃ k : Nat, x = .int .i64 k ∧ k ≤ s.size ∧ Hid (wr = w) ∧ Hid ((s.data.toList.take k).any (fun x => ((x.toNat : Int) == (c : Int))) = false)) (fun x _ => s.size - (intOf x).toNat)
  case atStart => exact ⟨0, rfl, Nat.zero_le _, rfl, rfl⟩
  case round =>
    obtain ⟨k, rfl, hk, HW, HT⟩ := hrel
    by_cases hlt : k < s.size
    · have hj2 : (0 : Int) ≤ (k : Int) := by omega
      have hj3 : (k : Int) < (s.size : Int) := by omega
      have HX := Lib.hid (show s.data.toList[k]? = some s[k] from by
        rw [Array.getElem?_toList]
        exact Array.getElem?_eq_getElem hlt)
      cases hb : ((s[k].toNat : Int) == (c : Int))
      · have HE := Lib.hid (show (s.data.toList.take (k + 1)).any (fun x => ((x.toNat : Int) == (c : Int))) = false by
          rw [List.take_add_one, HX.out, List.any_append, HT.out]
          simpa using hb)
        go_wp2_with fail
        go_roundw
        case rel => exact ⟨k + 1, by go_num, by omega, HW.out, HE.out⟩
        case measure => simp [intOf]; omega
      · have HE := Lib.hid (show (s.data.toList.any fun x => ((x.toNat : Int) == (c : Int))) = true from List.any_eq_true.2 ⟨s[k], List.mem_of_getElem? HX.out, hb⟩)
        go_wp2_with fail
        go_ret
        exact ⟨by rw [HE.out]; rfl, HW.out⟩
    · have HE := Lib.hid (show (s.data.toList.any fun x => ((x.toNat : Int) == (c : Int))) = false by
        have := HT.out
        rwa [List.take_of_length_le (by
          have hl : s.data.toList.length = s.size := Array.length_toList
          omega)] at this)
      go_wp2_with fail
      go_ret
      exact ⟨by rw [HE.out]; rfl, HW.out⟩
end Go.Proofs.YtbebfgfpdcdcoaaGreat
/- Plain regions that hold many guards: one operation at a time, behind a word of its own. -/
namespace Go.Proofs.YtbebfgfpdcdcoaaGreat

/-- (Behind a word of its own: Lean would reckon the guards out at each step.) -/
structure Wl (P : Program) (ops : Array Oper) (Q : Exit → Act → World → Prop) (l : List Oper) (a : Act) (w : World) : Prop where
  out : wpList P ops Q l a w
theorem wl_out {P : Program} {ops : Array Oper} {Q : Exit → Act → World → Prop} {a : Act} {w : World} {l : List Oper} (h : Wl P ops Q l a w) : wpList P ops Q l a w := h.out
theorem wl_nil {P : Program} {ops : Array Oper} {Q : Exit → Act → World → Prop} {a : Act} {w : World} (h : Q .normal a w) : Wl P ops Q [] a w := ⟨h⟩
theorem wl_do {P : Program} {ops : Array Oper} {Q : Exit → Act → World → Prop} {a : Act} {w : World} {o : Oper} {rest : List Oper} (hw : Region.wanted o (yielded ops a.tmps) = true)
    (h : ∀ K : Act → World → Prop, (∀ a w, Wl P ops Q rest a w → K a w) → o.wp P a w K Q) : Wl P ops Q (o :: rest) a w := ⟨wpList_step fun K hK => by rw [if_pos hw]; exact h K fun a w hq => hK a w hq.out⟩
theorem wl_skip {P : Program} {ops : Array Oper} {Q : Exit → Act → World → Prop} {a : Act} {w : World} {o : Oper} {rest : List Oper} (hw : Region.wanted o (yielded ops a.tmps) = false)
    (h : Wl P ops Q rest (a.put o.dst undef) w) : Wl P ops Q (o :: rest) a w := ⟨wpList_skip hw h.out⟩
end Go.Proofs.YtbebfgfpdcdcoaaGreat
/- The contract of the document's blank at a message that has nothing but its kind, named 'v'. -/
namespace Go.Proofs.YtbebfgfpdcdcoaaGreat
open Go.RowKit

set_option maxHeartbeats 4000000 in
set_option maxRecDepth 100000 in
theorem rblank_none (w : World) : Calls Tryz.prog 79 #[.agg #[.int .i64 6, .int .i64 0, .int .i64 0, .int .i64 0, .int .i64 0, .int .i64 0, .slice none 0 0, .slice none 0 0, .slice none 0 0, .slice none 0 0], .string ⟨#[118]⟩] w fun e w' => e = .returned (.bool true) ∧ Below w.heap.size w w' := by
  have HB := Lib.hid (show Below w.heap.size w (w.alloc (.cells #[.int .i64 6, .int .i64 0, .int .i64 0, .int .i64 0, .int .i64 0, .int .i64 0, .slice none 0 0, .slice none 0 0, .slice none 0 0, .slice none 0 0] 38)) from (Below.refl _ w).alloc (Nat.le_refl _) _)
  have S118 : ∀ w : World, Calls Tryz.prog 128 #[.string ⟨#[118]⟩, .int .u8 118] w fun e w' => e = .returned (.bool true) ∧ w' = w := fun w => (rsign_any ⟨#[118]⟩ 118 (by decide) w).mono (fun e w' h => ⟨h.1.trans (by rfl), h.2⟩)
  have S105 : ∀ w : World, Calls Tryz.prog 128 #[.string ⟨#[118]⟩, .int .u8 105] w fun e w' => e = .returned (.bool false) ∧ w' = w := fun w => (rsign_any ⟨#[118]⟩ 105 (by decide) w).mono (fun e w' h => ⟨h.1.trans (by rfl), h.2⟩)
  have S115 : ∀ w : World, Calls Tryz.prog 128 #[.string ⟨#[118]⟩, .int .u8 115] w fun e w' => e = .returned (.bool false) ∧ w' = w := fun w => (rsign_any ⟨#[118]⟩ 115 (by decide) w).mono (fun e w' h => ⟨h.1.trans (by rfl), h.2⟩)
  have S114 : ∀ w : World, Calls Tryz.prog 128 #[.string ⟨#[118]⟩, .int .u8 114] w fun e w' => e = .returned (.bool false) ∧ w' = w := fun w => (rsign_any ⟨#[118]⟩ 114 (by decide) w).mono (fun e w' h => ⟨h.1.trans (by rfl), h.2⟩)
  have S98 : ∀ w : World, Calls Tryz.prog 128 #[.string ⟨#[118]⟩, .int .u8 98] w fun e w' => e = .returned (.bool false) ∧ w' = w := fun w => (rsign_any ⟨#[118]⟩ 98 (by decide) w).mono (fun e w' h => ⟨h.1.trans (by rfl), h.2⟩)
  have S111 : ∀ w : World, Calls Tryz.prog 128 #[.string ⟨#[118]⟩, .int .u8 111] w fun e w' => e = .returned (.bool false) ∧ w' = w := fun w => (rsign_any ⟨#[118]⟩ 111 (by decide) w).mono (fun e w' h => ⟨h.1.trans (by rfl), h.2⟩)
  have S99 : ∀ w : World, Calls Tryz.prog 128 #[.string ⟨#[118]⟩, .int .u8 99] w fun e w' => e = .returned (.bool false) ∧ w' = w := fun w => (rsign_any ⟨#[118]⟩ 99 (by decide) w).mono (fun e w' h => ⟨h.1.trans (by rfl), h.2⟩)
  have S112 : ∀ w : World, Calls Tryz.prog 128 #[.string ⟨#[118]⟩, .int .u8 112] w fun e w' => e = .returned (.bool false) ∧ w' = w := fun w => (rsign_any ⟨#[118]⟩ 112 (by decide) w).mono (fun e w' h => ⟨h.1.trans (by rfl), h.2⟩)
  go_enter Tryz.func79, Tryz.ntmps79
  go_upto_region 1 with fail
  refine wp_region_lit ?_
  refine wl_out ?_
  refine wl_do (by kernel_rfl) (fun K hK => ?_)
  go_simp
  refine hK _ _ ?_
  clear hK K
  refine wl_do (by kernel_rfl) (fun K hK => ?_)
  go_simp
  refine (S118 _).mono ?_
  rintro e w' ⟨rfl, rfl⟩
  go_simp
  refine hK _ _ ?_
  clear hK K
  refine wl_do (by kernel_rfl) (fun K hK => ?_)
  go_simp
  refine hK _ _ ?_
  clear hK K
  refine wl_skip (by kernel_rfl) ?_
  refine wl_skip (by kernel_rfl) ?_
  refine wl_skip (by kernel_rfl) ?_
  refine wl_do (by kernel_rfl) (fun K hK => ?_)
  go_simp
  refine hK _ _ ?_
  clear hK K
  refine wl_do (by kernel_rfl) (fun K hK => ?_)
  go_simp
  refine hK _ _ ?_
  clear hK K
  refine wl_do (by kernel_rfl) (fun K hK => ?_)
  go_simp
  refine hK _ _ ?_
  clear hK K
  refine wl_do (by kernel_rfl) (fun K hK => ?_)
  go_simp
  refine (S105 _).mono ?_
  rintro e w' ⟨rfl, rfl⟩
  go_simp
  refine hK _ _ ?_
  clear hK K
  refine wl_do (by kernel_rfl) (fun K hK => ?_)
  go_simp
  refine hK _ _ ?_
  clear hK K
  refine wl_do (by kernel_rfl) (fun K hK => ?_)
  go_simp
  refine hK _ _ ?_
  clear hK K
  refine wl_do (by kernel_rfl) (fun K hK => ?_)
  go_simp
  refine hK _ _ ?_
  clear hK K
  refine wl_do (by kernel_rfl) (fun K hK => ?_)
  go_simp
  refine hK _ _ ?_
  clear hK K
  refine wl_do (by kernel_rfl) (fun K hK => ?_)
  go_simp
  refine hK _ _ ?_
  clear hK K
  refine wl_do (by kernel_rfl) (fun K hK => ?_)
  go_simp
  refine hK _ _ ?_
  clear hK K
  refine wl_do (by kernel_rfl) (fun K hK => ?_)
  go_simp
  refine hK _ _ ?_
  clear hK K
  refine wl_do (by kernel_rfl) (fun K hK => ?_)
  go_simp
  refine hK _ _ ?_
  clear hK K
  refine wl_do (by kernel_rfl) (fun K hK => ?_)
  go_simp
  refine (S115 _).mono ?_
  rintro e w' ⟨rfl, rfl⟩
  go_simp
  refine hK _ _ ?_
  clear hK K
  refine wl_do (by kernel_rfl) (fun K hK => ?_)
  go_simp
  refine hK _ _ ?_
  clear hK K
  refine wl_do (by kernel_rfl) (fun K hK => ?_)
  go_simp
  refine hK _ _ ?_
  clear hK K
  refine wl_do (by kernel_rfl) (fun K hK => ?_)
  go_simp
  refine hK _ _ ?_
  clear hK K
  refine wl_do (by kernel_rfl) (fun K hK => ?_)
  go_simp
  refine hK _ _ ?_
  clear hK K
  refine wl_do (by kernel_rfl) (fun K hK => ?_)
  go_simp
  refine hK _ _ ?_
  clear hK K
  refine wl_do (by kernel_rfl) (fun K hK => ?_)
  go_simp
  refine hK _ _ ?_
  clear hK K
  refine wl_do (by kernel_rfl) (fun K hK => ?_)
  go_simp
  refine hK _ _ ?_
  clear hK K
  refine wl_do (by kernel_rfl) (fun K hK => ?_)
  go_simp
  refine hK _ _ ?_
  clear hK K
  refine wl_do (by kernel_rfl) (fun K hK => ?_)
  go_simp
  refine (S114 _).mono ?_
  rintro e w' ⟨rfl, rfl⟩
  go_simp
  refine hK _ _ ?_
  clear hK K
  refine wl_do (by kernel_rfl) (fun K hK => ?_)
  go_simp
  refine hK _ _ ?_
  clear hK K
  refine wl_do (by kernel_rfl) (fun K hK => ?_)
  go_simp
  refine hK _ _ ?_
  clear hK K
  refine wl_do (by kernel_rfl) (fun K hK => ?_)
  go_simp
  refine hK _ _ ?_
  clear hK K
  refine wl_do (by kernel_rfl) (fun K hK => ?_)
  go_simp
  refine hK _ _ ?_
  clear hK K
  refine wl_do (by kernel_rfl) (fun K hK => ?_)
  go_simp
  refine hK _ _ ?_
  clear hK K
  refine wl_do (by kernel_rfl) (fun K hK => ?_)
  go_simp
  refine hK _ _ ?_
  clear hK K
  refine wl_do (by kernel_rfl) (fun K hK => ?_)
  go_simp
  refine hK _ _ ?_
  clear hK K
  refine wl_do (by kernel_rfl) (fun K hK => ?_)
  go_simp
  refine hK _ _ ?_
  clear hK K
  refine wl_do (by kernel_rfl) (fun K hK => ?_)
  go_simp
  refine (S98 _).mono ?_
  rintro e w' ⟨rfl, rfl⟩
  go_simp
  refine hK _ _ ?_
  clear hK K
  refine wl_do (by kernel_rfl) (fun K hK => ?_)
  go_simp
  refine hK _ _ ?_
  clear hK K
  refine wl_do (by kernel_rfl) (fun K hK => ?_)
  go_simp
  refine hK _ _ ?_
  clear hK K
  refine wl_do (by kernel_rfl) (fun K hK => ?_)
  go_simp
  refine hK _ _ ?_
  clear hK K
  refine wl_do (by kernel_rfl) (fun K hK => ?_)
  go_simp
  refine hK _ _ ?_
  clear hK K
  refine wl_do (by kernel_rfl) (fun K hK => ?_)
  go_simp
  refine hK _ _ ?_
  clear hK K
  refine wl_do (by kernel_rfl) (fun K hK => ?_)
  go_simp
  refine hK _ _ ?_
  clear hK K
  refine wl_do (by kernel_rfl) (fun K hK => ?_)
  go_simp
  refine hK _ _ ?_
  clear hK K
  refine wl_do (by kernel_rfl) (fun K hK => ?_)
  go_simp
  refine hK _ _ ?_
  clear hK K
  refine wl_do (by kernel_rfl) (fun K hK => ?_)
  go_simp
  refine hK _ _ ?_
  clear hK K
  refine wl_do (by kernel_rfl) (fun K hK => ?_)
  go_simp
  refine (S111 _).mono ?_
  rintro e w' ⟨rfl, rfl⟩
  go_simp
  refine hK _ _ ?_
  clear hK K
  refine wl_do (by kernel_rfl) (fun K hK => ?_)
  go_simp
  refine hK _ _ ?_
  clear hK K
  refine wl_do (by kernel_rfl) (fun K hK => ?_)
  go_simp
  refine hK _ _ ?_
  clear hK K
  refine wl_do (by kernel_rfl) (fun K hK => ?_)
  go_simp
  refine hK _ _ ?_
  clear hK K
  refine wl_do (by kernel_rfl) (fun K hK => ?_)
  go_simp
  refine hK _ _ ?_
  clear hK K
  refine wl_do (by kernel_rfl) (fun K hK => ?_)
  go_simp
  refine hK _ _ ?_
  clear hK K
  refine wl_do (by kernel_rfl) (fun K hK => ?_)
  go_simp
  refine hK _ _ ?_
  clear hK K
  refine wl_do (by kernel_rfl) (fun K hK => ?_)
  go_simp
  refine hK _ _ ?_
  clear hK K
  refine wl_do (by kernel_rfl) (fun K hK => ?_)
  go_simp
  refine hK _ _ ?_
  clear hK K
  refine wl_do (by kernel_rfl) (fun K hK => ?_)
  go_simp
  refine hK _ _ ?_
  clear hK K
  refine wl_do (by kernel_rfl) (fun K hK => ?_)
  go_simp
  refine (S99 _).mono ?_
  rintro e w' ⟨rfl, rfl⟩
  go_simp
  refine hK _ _ ?_
  clear hK K
  refine wl_do (by kernel_rfl) (fun K hK => ?_)
  go_simp
  refine hK _ _ ?_
  clear hK K
  refine wl_do (by kernel_rfl) (fun K hK => ?_)
  go_simp
  refine hK _ _ ?_
  clear hK K
  refine wl_do (by kernel_rfl) (fun K hK => ?_)
  go_simp
  refine hK _ _ ?_
  clear hK K
  refine wl_do (by kernel_rfl) (fun K hK => ?_)
  go_simp
  refine hK _ _ ?_
  clear hK K
  refine wl_do (by kernel_rfl) (fun K hK => ?_)
  go_simp
  refine hK _ _ ?_
  clear hK K
  refine wl_do (by kernel_rfl) (fun K hK => ?_)
  go_simp
  refine hK _ _ ?_
  clear hK K
  refine wl_do (by kernel_rfl) (fun K hK => ?_)
  go_simp
  refine hK _ _ ?_
  clear hK K
  refine wl_do (by kernel_rfl) (fun K hK => ?_)
  go_simp
  refine hK _ _ ?_
  clear hK K
  refine wl_do (by kernel_rfl) (fun K hK => ?_)
  go_simp
  refine hK _ _ ?_
  clear hK K
  refine wl_do (by kernel_rfl) (fun K hK => ?_)
  go_simp
  refine (S112 _).mono ?_
  rintro e w' ⟨rfl, rfl⟩
  go_simp
  refine hK _ _ ?_
  clear hK K
  refine wl_do (by kernel_rfl) (fun K hK => ?_)
  go_simp
  refine hK _ _ ?_
  clear hK K
  refine wl_do (by kernel_rfl) (fun K hK => ?_)
  go_simp
  refine hK _ _ ?_
  clear hK K
  refine wl_do (by kernel_rfl) (fun K hK => ?_)
  go_simp
  refine hK _ _ ?_
  clear hK K
  refine wl_do (by kernel_rfl) (fun K hK => ?_)
  go_simp
  refine hK _ _ ?_
  clear hK K
  refine wl_do (by kernel_rfl) (fun K hK => ?_)
  go_simp
  refine hK _ _ ?_
  clear hK K
  refine wl_do (by kernel_rfl) (fun K hK => ?_)
  go_simp
  refine hK _ _ ?_
  clear hK K
  refine wl_do (by kernel_rfl) (fun K hK => ?_)
  go_simp
  refine hK _ _ ?_
  clear hK K
  refine wl_do (by kernel_rfl) (fun K hK => ?_)
  go_simp
  refine hK _ _ ?_
  clear hK K
  refine wl_nil ?_
  clear S118 S105 S115 S114 S98 S111 S99 S112
  go_wp2_with fail
  go_ret
  exact ⟨rfl, HB.out⟩
end Go.Proofs.YtbebfgfpdcdcoaaGreat
/- The contract of keep.Copy at bytes. -/
namespace Go.Proofs.YtbebfgfpdcdcoaaGreat
open Go.RowKit

/-- keep.Copy at bytes: a row of the call's own with the same bytes. -/
theorem copy_own (A : Option Addr) (c n B : Nat) (zs : List Int) (w : World) (hl : zs.length = n) (hm : zs.length ≤ 1048576) (hh : Has w B A (u8s zs)) (hn : A = none → c = 0) :
    Calls Tryz.prog 33 #[.slice A n c] w fun e w' => ∃ v, e = .returned v ∧ w'.ownsRow w.heap.size 5 1 v n (u8s zs) ∧ Below w.heap.size w w' := by
  obtain ⟨i0, hi, hz0, hz1, hz2⟩ := info_parts Tryz.info5
  subst hl
  have HH := Lib.hid hh
  have HN := Lib.hid hn
  clear hh hn
  go_enter Tryz.func33, Tryz.ntmps33
  go_wp2_with (at_builtin; refine wpList_app rfl _ _ 39 rfl w.heap.size 5 i0 (.int .u8 0) 1 Tryz.underlying39 hi hz0 hz1 hz2 rfl _ 0 [] rfl (World.ownsRow_nil _ _ _ _) B A _ c (u8s zs) rfl (u8s_len zs) HH.out HN.out (u8s_one zs) (by unfold maxLen; omega) (by omega) (Nat.le_refl _) ?_)
  intro v w1 ho _ hb
  go_wp2
  go_ret
  exact ⟨v, rfl, ho, hb⟩
end Go.Proofs.YtbebfgfpdcdcoaaGreat
