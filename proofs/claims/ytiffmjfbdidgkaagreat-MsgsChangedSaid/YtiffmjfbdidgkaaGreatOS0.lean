/- Plain lists: the bytes of a number (enc), and the number that stands in a list (dec). Nothing of the program. -/
import Derived.Test.YtiffmjfbdidgkaaGreatRows
import Derived.WalkKit
import Derived.WalkSpells
import Derived.WalkLawsBesides
import Derived.Deep.AppendLies
import Derived.Laws.AppendOwnNone
import Derived.Lib.Hide
import Derived.Laws.OwnMore
import Derived.Laws.Rows
import Derived.Deep.Draws
import Derived.Deep.Slices
import Derived.Deep.Fields
import Derived.ChangeSame
import Derived.ProofKit
import Derived.OpenShut
import Derived.Scope
import Derived.WalkMore
import Derived.Lib.QuietBelow
import Derived.BigQuiet
import Derived.Maps.OwnSet
import Derived.DeepKeys4
import Derived.Laws.BytesArg
import Derived.Deep.QuietTactic
import Derived.Deep.RegionLaw
import Derived.RegionTactic
import Derived.Maps.AppendAt
import Derived.StillTailTactics
import Derived.IntWalk
import Derived.Tactics
import Derived.Tactics2
import Derived.Deep.DeepCutAuto
import Derived.Shelf.GgSortFunc.RowK
import Derived.Deep.MidRow
import Derived.Deep.RegionHeld3
namespace Go.Proofs.YtiffmjfbdidgkaaGreat

/-- The groups of m, with fuel. -/
def encF : Nat → Nat → List Int
  | 0, m => [(m : Int)]
  | f + 1, m => if m < 128 then [(m : Int)] else ((m % 128 + 128 : Nat) : Int) :: encF f (m / 128)
def enc (m : Nat) : List Int := encF m m
theorem encF_any (f : Nat) : ∀ g m, m ≤ f → m ≤ g → encF f m = encF g m := by
  induction f with
  | zero => intro g m h _; obtain rfl : m = 0 := by omega
            cases g <;> simp [encF]
  | succ f ih =>
    intro g m h1 h2
    cases g with
    | zero => obtain rfl : m = 0 := by omega
              simp [encF]
    | succ g =>
      unfold encF
      by_cases h : m < 128
      · simp [h]
      · simp only [if_neg h]
        rw [ih g (m / 128) (by omega) (by omega)]
theorem enc_small {m : Nat} (h : m < 128) : enc m = [(m : Int)] := by
  unfold enc
  cases m <;> simp [encF, h]
theorem enc_big {m : Nat} (h : 128 ≤ m) : enc m = ((m % 128 + 128 : Nat) : Int) :: enc (m / 128) := by
  unfold enc
  obtain ⟨k, rfl⟩ : ∃ k, m = k + 1 := ⟨m - 1, by omega⟩
  rw [encF, if_neg (by omega), encF_any k ((k + 1) / 128) ((k + 1) / 128) (by omega) (by omega)]
theorem enc_pos (m : Nat) : 0 < (enc m).length := by
  by_cases h : m < 128
  · simp [enc_small h]
  · simp [enc_big (by omega : 128 ≤ m)]
theorem enc_len (k : Nat) : ∀ m, m < 128 ^ (k + 1) → (enc m).length ≤ k + 1 := by
  induction k with
  | zero => intro m h; rw [enc_small (by omega)]; simp
  | succ k ih =>
    intro m h
    by_cases h1 : m < 128
    · rw [enc_small h1]; simp
    · rw [enc_big (by omega)]
      have := ih (m / 128) (by rw [Nat.div_lt_iff_lt_mul (by omega)]; rw [Nat.pow_succ] at h; exact h)
      simp; omega
theorem enc_bound (f : Nat) : ∀ m, m ≤ f → ∀ z ∈ enc m, 0 ≤ z ∧ z ≤ 255 := by
  induction f with
  | zero => intro m h z hz; rw [enc_small (by omega)] at hz; simp at hz; omega
  | succ f ih =>
    intro m h z hz
    by_cases h1 : m < 128
    · rw [enc_small h1] at hz; simp at hz; omega
    · rw [enc_big (by omega)] at hz
      rcases List.mem_cons.1 hz with rfl | hz
      · omega
      · exact ih _ (by omega) z hz

/-- The number whose groups stand at the head of a list, from shift s on, upon acc; and how many groups. -/
def dec : Nat → Int → List Int → Option (Int × Nat)
  | _, _, [] => none
  | s, acc, g :: l =>
    if 40 ≤ s then none
    else if g < 128 then (if (g = 0 ∧ 0 < s) ∨ 1099511627775 < acc + g * 2 ^ s then none else some (acc + g * 2 ^ s, 1))
    else (dec (s + 7) (acc + (g - 128) * 2 ^ s) l).map fun p => (p.1, p.2 + 1)
/-- What a taker answers that stands at place nx. -/
def res (s : Nat) (acc : Int) (nx : Nat) (l : List Int) : Int × Int × Bool :=
  match dec s acc l with
  | none => (0, 0, false)
  | some (n, k) => (n, (nx : Int) + k, true)
def takeS (l : List Int) (i : Int) : Int × Int × Bool := if i < 0 then (0, 0, false) else res 0 0 i.toNat (l.drop i.toNat)
theorem res_nil (s : Nat) (acc : Int) (nx : Nat) : res s acc nx [] = (0, 0, false) := rfl
theorem res_far {s : Nat} (acc : Int) (nx : Nat) (l : List Int) (h : 40 ≤ s) : res s acc nx l = (0, 0, false) := by
  cases l <;> simp [res, dec, h]
theorem res_last {s : Nat} {acc g : Int} {nx : Nat} {l : List Int} (h : s < 40) (hg : g < 128) :
    res s acc nx (g :: l) = if (g = 0 ∧ 0 < s) ∨ 1099511627775 < acc + g * 2 ^ s then (0, 0, false) else (acc + g * 2 ^ s, ((nx + 1 : Nat) : Int), true) := by
  simp only [res, dec, if_neg (by omega : ¬ 40 ≤ s), if_pos hg]
  split <;> rename_i h1
  · split at h1
    · rw [if_pos (by assumption)]
    · cases h1
  · split at h1
    · cases h1
    · rw [if_neg (by assumption)]
      injection h1 with h1
      injection h1 with h1 h2
      subst h1; subst h2; rfl
theorem res_more {s : Nat} {acc g : Int} {nx : Nat} {l : List Int} (h : s < 40) (hg : 128 ≤ g) :
    res s acc nx (g :: l) = res (s + 7) (acc + (g - 128) * 2 ^ s) (nx + 1) l := by
  simp only [res, dec, if_neg (by omega : ¬ 40 ≤ s), if_neg (by omega : ¬ g < 128)]
  cases dec (s + 7) (acc + (g - 128) * 2 ^ s) l with
  | none => rfl
  | some p => simp; omega

theorem pow_pos' (s : Nat) : (1 : Int) ≤ 2 ^ s := by
  have := Nat.pow_pos (n := s) (show 0 < 2 by omega)
  exact_mod_cast this
theorem shift_lt {s : Nat} (h : (2 : Int) ^ s ≤ 1099511627775) : s < 40 := by
  rcases Nat.lt_or_ge s 40 with h1 | h1
  · exact h1
  · exfalso
    have h2 : (2 : Int) ^ 40 ≤ 2 ^ s := by
      have := Nat.pow_le_pow_right (n := 2) (by omega) h1
      exact_mod_cast this
    omega
/-- What is written is taken. -/
theorem dec_enc (post : List Int) (f : Nat) : ∀ (m s : Nat) (acc : Int), m ≤ f → 0 ≤ acc → (m = 0 → s = 0) → acc + (m : Int) * 2 ^ s ≤ 1099511627775 →
    dec s acc (enc m ++ post) = some (acc + (m : Int) * 2 ^ s, (enc m).length) := by
  induction f with
  | zero =>
    intro m s acc hm _ hz ht
    obtain rfl : m = 0 := by omega
    obtain rfl : s = 0 := hz rfl
    have h0 : acc ≤ 1099511627775 := by simpa using ht
    rw [enc_small (by omega)]
    simp [dec]; omega
  | succ f ih =>
    intro m s acc hm ha hz ht
    have hp := pow_pos' s
    by_cases h0 : m = 0
    · subst h0
      obtain rfl : s = 0 := hz rfl
      have h0 : acc ≤ 1099511627775 := by simpa using ht
      rw [enc_small (by omega)]
      simp [dec]; omega
    have hle : (2 : Int) ^ s ≤ (m : Int) * 2 ^ s := by
      have h1 : (1 : Int) * 2 ^ s ≤ (m : Int) * 2 ^ s := Int.mul_le_mul_of_nonneg_right (by omega) (by omega)
      omega
    have hs := shift_lt (s := s) (by omega)
    by_cases h : m < 128
    · rw [enc_small h]
      simp only [List.cons_append, List.nil_append, dec]
      rw [if_neg (by omega), if_pos (by omega), if_neg (by omega)]
      rfl
    · rw [enc_big (by omega)]
      simp only [List.cons_append, dec]
      rw [if_neg (by omega), if_neg (by omega)]
      have e : acc + (((m % 128 + 128 : Nat) : Int) - 128) * 2 ^ s + ((m / 128 : Nat) : Int) * 2 ^ (s + 7) = acc + (m : Int) * 2 ^ s := by
        have e1 : (m : Int) = ((m / 128 : Nat) : Int) * 128 + ((m % 128 : Nat) : Int) := by omega
        have e2 : (((m % 128 + 128 : Nat) : Int) - 128) = ((m % 128 : Nat) : Int) := by omega
        rw [e2, Int.pow_add, show (2 : Int) ^ 7 = 128 from rfl]
        conv => rhs; rw [e1]
        rw [Int.add_mul, Int.mul_assoc, Int.mul_comm 128 (2 ^ s)]
        omega
      have hnn : 0 ≤ (((m % 128 + 128 : Nat) : Int) - 128) * 2 ^ s := Int.mul_nonneg (by omega) (by omega)
      rw [ih (m / 128) (s + 7) _ (by omega) (by omega) (by omega) (by rw [e]; exact ht), e]
      simp
/-- A number that is written at a place is taken there. -/
theorem takeS_enc (pre post : List Int) (m : Nat) (hm : m < 1099511627776) : takeS (pre ++ (enc m ++ post)) pre.length = ((m : Int), (pre.length : Int) + (enc m).length, true) := by
  unfold takeS
  rw [if_neg (by omega), show ((pre.length : Int)).toNat = pre.length from rfl, List.drop_left]
  unfold res
  rw [dec_enc post m m 0 0 (Nat.le_refl _) (by omega) (fun _ => rfl) (by simp; omega)]
  simp
/-- What is taken is written as just the bytes that it was taken from. -/
theorem dec_back : ∀ (l : List Int) (s : Nat) (acc n : Int) (k : Nat), (∀ z ∈ l, 0 ≤ z ∧ z ≤ 255) → dec s acc l = some (n, k) →
    ∃ m : Nat, n = acc + (m : Int) * 2 ^ s ∧ l.take k = enc m ∧ k ≤ l.length ∧ 1 ≤ k ∧ (m = 0 → s = 0) ∧ n ≤ 1099511627775
  | [], s, acc, n, k, _, h => by simp [dec] at h
  | g :: l, s, acc, n, k, hz, h => by
    have hg := hz g (List.mem_cons_self ..)
    simp only [dec] at h
    by_cases hs : 40 ≤ s
    · rw [if_pos hs] at h; cases h
    rw [if_neg hs] at h
    by_cases h1 : g < 128
    · rw [if_pos h1] at h
      by_cases h2 : (g = 0 ∧ 0 < s) ∨ 1099511627775 < acc + g * 2 ^ s
      · rw [if_pos h2] at h; cases h
      · rw [if_neg h2] at h
        injection h with h
        injection h with h3 h4
        subst h3; subst h4
        refine ⟨g.toNat, ?_, ?_, by simp, by omega, by omega, by omega⟩
        · rw [Int.toNat_of_nonneg hg.1]
        · rw [enc_small (by omega)]
          simp; omega
    · rw [if_neg h1] at h
      rw [Option.map_eq_some_iff] at h
      obtain ⟨⟨n', k'⟩, hd, he⟩ := h
      injection he with h3 h4
      subst h3; subst h4
      obtain ⟨m, e1, e2, e3, e4, e5, e6⟩ := dec_back l (s + 7) _ n' k' (fun z hzz => hz z (List.mem_cons_of_mem _ hzz)) hd
      have hm : m ≠ 0 := fun h0 => by have := e5 h0; omega
      refine ⟨(g - 128).toNat + 128 * m, ?_, ?_, by simp; omega, by omega, by omega, e6⟩
      · rw [e1, Int.pow_add, show (2 : Int) ^ 7 = 128 from rfl]
        rw [show (((g - 128).toNat + 128 * m : Nat) : Int) = (g - 128) + (m : Int) * 128 by omega, Int.add_mul, Int.mul_assoc, Int.mul_comm 128 (2 ^ s)]
        omega
      · rw [enc_big (by omega), List.take_succ_cons, e2]
        congr 1
        · omega
        · congr 1
          omega
theorem takeS_cases (l : List Int) (i : Int) (hz : ∀ z ∈ l, 0 ≤ z ∧ z ≤ 255) :
    takeS l i = (0, 0, false) ∨ ∃ (m p q : Nat), i = p ∧ takeS l i = ((m : Int), (q : Int), true) ∧ p < q ∧ q ≤ l.length ∧ m < 1099511627776 ∧ (l.drop p).take (q - p) = enc m := by
  unfold takeS
  by_cases h : i < 0
  · rw [if_pos h]; exact Or.inl rfl
  · rw [if_neg h]
    obtain ⟨p, rfl⟩ := Int.eq_ofNat_of_zero_le (show 0 ≤ i by omega)
    rw [show ((p : Int)).toNat = p from rfl]
    unfold res
    rcases hd : dec 0 0 (l.drop p) with _ | ⟨n, k⟩
    · exact Or.inl rfl
    · obtain ⟨m, e1, e2, e3, e4, _, e6⟩ := dec_back _ 0 0 n k (fun z hzz => hz z (List.mem_of_mem_drop hzz)) hd
      have e7 : n = m := by simpa using e1
      subst e7
      have e8 : k ≤ l.length - p := by simpa using e3
      exact Or.inr ⟨m, p, p + k, rfl, rfl, by omega, by omega, by omega, by rw [Nat.add_sub_cancel_left]; exact e2⟩
/-- Numbers one behind the other. -/
def flat (ns : List Nat) : List Int := ns.flatMap enc
theorem flat_app (l m : List Nat) : flat (l ++ m) = flat l ++ flat m := by simp [flat]
theorem flat_cons (m : Nat) (l : List Nat) : flat (m :: l) = enc m ++ flat l := rfl
theorem flat_len : ∀ (ns : List Nat), (∀ m ∈ ns, m < 1099511627776) → (flat ns).length ≤ 6 * ns.length
  | [], _ => by simp [flat]
  | m :: l, h => by
    have h1 := enc_len 5 m (by have := h m (List.mem_cons_self ..); omega)
    have h2 := flat_len l fun k hk => h k (List.mem_cons_of_mem _ hk)
    rw [flat_cons]
    simp; omega
theorem flat_u8 (ns : List Nat) : ∀ z ∈ flat ns, 0 ≤ z ∧ z ≤ 255 := fun z hz => by
  obtain ⟨m, _, hm⟩ := List.mem_flatMap.1 hz
  exact enc_bound m m (Nat.le_refl _) z hm
theorem take_more {α : Type} {l r : List α} {j : Nat} {x : α} (h : l.drop j = x :: r) : l.take (j + 1) = l.take j ++ [x] ∧ j < l.length := by
  have hj : j < l.length := by
    rcases Nat.lt_or_ge j l.length with h1 | h1
    · exact h1
    · rw [List.drop_eq_nil_of_le h1] at h; cases h
  rw [List.drop_eq_getElem_cons hj] at h
  injection h with h1 _
  exact ⟨by rw [List.take_succ_eq_append_getElem hj, h1], hj⟩
end Go.Proofs.YtiffmjfbdidgkaaGreat
/- Words on memory: a slice value that reads as a list of one-cell values ('Has'); what keeps it. -/
namespace Go.Proofs.YtiffmjfbdidgkaaGreat
open Go.RowKit

/-- The slice at A reads as xs, each value one cell, in a block below B. -/
def Has (w : World) (B : Nat) (A : Option Addr) (xs : List Value) : Prop :=
  ∀ j u, xs[j]? = some u → ∃ ad, A = some ad ∧ ad.block < B ∧ w.cell? (ad.add j) = some u

def u8s (l : List Int) : List Value := l.map (Value.int .u8)
theorem u8s_len (l : List Int) : (u8s l).length = l.length := by simp [u8s]
theorem u8s_app (l m : List Int) : u8s (l ++ m) = u8s l ++ u8s m := by simp [u8s]
theorem addr_block (a : Addr) (n : Nat) : (a.add n).block = a.block := by
  cases n with
  | zero => rfl
  | succ n => rfl

theorem addr_at (g i : Nat) : (⟨g, 0, none⟩ : Addr).add i = ⟨g, i, none⟩ := by
  cases i <;> simp [Addr.add]

section
variable {w w' : World} {B B' : Nat} {A : Option Addr} {xs : List Value}
theorem Has.nil (w : World) (B : Nat) (A : Option Addr) : Has w B A [] := fun j u h => by simp at h
theorem Has.more (h : Has w B A xs) (hB : B ≤ B') : Has w B' A xs := fun j u hj => by
  obtain ⟨ad, e, hb, hc⟩ := h j u hj
  exact ⟨ad, e, by omega, hc⟩
theorem Has.below (h : Has w B A xs) (hb : Below B' w w') (hB : B ≤ B') : Has w' B A xs := fun j u hj => by
  obtain ⟨ad, e, hlt, hc⟩ := h j u hj
  exact ⟨ad, e, hlt, (hb.cell (by rw [addr_block]; omega)).trans hc⟩
theorem Has.at (h : Has w B A xs) {k : Nat} (hk : k < xs.length) : ∃ ad, A = some ad ∧ ad.block < B ∧ w.cell? (ad.add k) = some xs[k] :=
  h k _ (List.getElem?_eq_getElem hk)
theorem Has.own {base n c : Nat} {e : TypeId} (h : w.ownsRow base e 1 (.slice A n c) n xs) : Has w w.heap.size A xs := fun j u hj => by
  have hn : 0 < n := by
    have := h.1
    have hl : j < xs.length := (List.getElem?_eq_some_iff.1 hj).1
    omega
  obtain ⟨g, cap, hv, _, hlt⟩ := h.form hn
  have hA : A = some ⟨g, 0, none⟩ := by injection hv
  subst hA
  exact ⟨_, rfl, hlt, h.cells (g := g) rfl j u hj⟩
theorem Has.fresh (w : World) (cs : Array Value) (t : TypeId) : Has (w.alloc (.cells cs t)) (w.heap.size + 1) (some ⟨w.heap.size, 0, none⟩) cs.toList := fun j u hj => by
  refine ⟨_, rfl, Nat.lt_succ_self _, World.news_of_block (cs := cs) (t := t) (fr := (0, 0)) ?_ j u hj⟩
  show (w.heap.push _)[w.heap.size]? = _
  simp
end
theorem Has.take {w : World} {B : Nat} {A : Option Addr} {zs : List Int} (h : Has w B A (u8s zs)) (k : Nat) : Has w B A (u8s (zs.take k)) := fun j u hj => by
  refine h j u ?_
  unfold u8s at hj ⊢
  rw [List.map_take, List.getElem?_take] at hj
  split at hj
  · exact hj
  · cases hj
theorem Has.drew {w : World} {B : Nat} {A : Option Addr} {xs : List Value} (h : Has w B A xs) : Has w.drew B A xs := h
theorem Has.drewN {w : World} {B : Nat} {A : Option Addr} {xs : List Value} (h : Has w B A xs) (n : Nat) : Has (w.drewN n) B A xs := h
theorem addr_add (a : Addr) (i j : Nat) : (a.add i).add j = a.add (i + j) := by
  cases i with
  | zero => simp [Addr.add]
  | succ i =>
    cases j with
    | zero => rfl
    | succ j => simp [Addr.add]; omega
/-- A slice that came in, as a list of numbers of one kind. -/
structure IsList (k : IntKind) (w : World) (A : Option Addr) (zs : List Int) (c : Nat) : Prop where
  le : zs.length ≤ c
  most : c ≤ maxLen
  has : Has w w.heap.size A (zs.map (Value.int k))
  fits : ∀ z ∈ zs, (Lit.int k z).wf = true
  nil : A = none → c = 0
theorem block_lt {w : World} {p : Addr} {u : Value} (h : w.cell? p = some u) : p.block < w.heap.size := by
  rcases Nat.lt_or_ge p.block w.heap.size with h1 | h1
  · exact h1
  · have : w.heap[p.block]? = none := Array.getElem?_eq_none h1
    simp [World.cell?, this] at h
theorem has_rows {w : World} {base n c s : Nat} {e : TypeId} {A : Option Addr} {xs : List Value} (h : w.ownsRow base e s (.slice A n c) n xs) : Has w w.heap.size A xs := fun j u hj => by
  have hn : 0 < n := by
    rcases Nat.eq_zero_or_pos n with h0 | h0
    · subst h0
      have := h.1
      have hl : j < xs.length := (List.getElem?_eq_some_iff.1 hj).1
      omega
    · exact h0
  obtain ⟨g, cap, hv, _, hlt⟩ := h.form hn
  have hA : A = some ⟨g, 0, none⟩ := by injection hv
  subst hA
  exact ⟨_, rfl, hlt, h.cells (g := g) rfl j u hj⟩
theorem Has.tight {w : World} {B : Nat} {A : Option Addr} {xs : List Value} (h : Has w B A xs) : Has w w.heap.size A xs := fun j u hj => by
  obtain ⟨ad, e, _, hc⟩ := h j u hj
  have := block_lt hc
  rw [addr_block] at this
  exact ⟨ad, e, this, hc⟩
theorem IsList.none {k : IntKind} {w : World} : IsList k w Option.none [] 0 := ⟨Nat.le_refl _, Nat.zero_le _, Has.nil _ _ _, by simp, fun _ => rfl⟩
theorem IsList.row {k : IntKind} {w : World} {x : Addr} {l c : Nat} {zs : List Int} (hl : l ≤ c) (hm : c ≤ maxLen) (hz : zs.length = c)
    (hcell : ∀ i, i < zs.length → w.cell? (x.add i) = some (.int k (zs.getD i 0))) (hwz : ∀ n ∈ zs, (Lit.int k n).wf = true) : IsList k w (some x) (zs.take l) c := by
  refine ⟨by simp; omega, hm, fun j u hj => ?_, fun z h => hwz z (List.mem_of_mem_take h), fun h => by cases h⟩
  have hj1 : j < (zs.take l).length := by
    have := (List.getElem?_eq_some_iff.1 hj).1
    simpa using this
  have hj2 : j < zs.length := by simp at hj1; omega
  have h2 := hcell j hj2
  refine ⟨x, rfl, ?_, ?_⟩
  · have := block_lt h2; rwa [addr_block] at this
  · rw [h2, ← hj]
    simp [List.getElem?_take, List.getElem?_eq_getElem hj2]
    simp at hj1; omega
theorem wf_i64 {z : Int} (h : (Lit.int .i64 z).wf = true) : -9223372036854775808 ≤ z ∧ z ≤ 9223372036854775807 := by
  simp only [Lit.wf, Bool.and_eq_true, decide_eq_true_eq] at h
  exact h
/-- A number of it, of whatever kind. -/
theorem Has.int {w : World} {B : Nat} {A : Option Addr} {k : IntKind} {zs : List Int} (h : Has w B A (zs.map (Value.int k))) {j : Nat} (hj : j < zs.length) :
    ∃ ad z, A = some ad ∧ ad.block < B ∧ w.cell? (ad.add j) = some (.int k z) ∧ zs.drop j = z :: zs.drop (j + 1) ∧ z ∈ zs := by
  obtain ⟨ad, hA, hb, hc⟩ := h.at (k := j) (by rw [List.length_map]; exact hj)
  exact ⟨ad, zs[j], hA, hb, by rw [hc]; simp, List.drop_eq_getElem_cons hj, List.getElem_mem hj⟩
/-- Rows of unlike element types lie in unlike blocks. -/
theorem own_apart {w : World} {b b' n n' s s' : Nat} {e e' : TypeId} {v v' : Value} {xs xs' : List Value} (h : w.ownsRow b e s v n xs) (h' : w.ownsRow b' e' s' v' n' xs') (hne : e ≠ e') :
    v.ownBlock = none ∨ v.ownBlock ≠ v'.ownBlock := by
  rcases h.2 with ⟨rfl, _⟩ | ⟨g, cap, cur, rfl, _, hg, _⟩
  · exact Or.inl rfl
  · refine Or.inr fun hb => ?_
    rcases h'.2 with ⟨rfl, _⟩ | ⟨g', cap', cur', rfl, _, hg', _⟩
    · cases hb
    · injection hb with hb
      have hb : g = g' := hb
      subst hb
      rw [hg] at hg'
      injection hg' with hg'
      injection hg' with _ he
      exact hne he
/-- A byte of it. -/
theorem Has.byte {w : World} {B : Nat} {A : Option Addr} {zs : List Int} (h : Has w B A (u8s zs)) {k : Nat} (hk : k < zs.length) :
    ∃ ad z, A = some ad ∧ ad.block < B ∧ w.cell? (ad.add k) = some (.int .u8 z) ∧ zs.drop k = z :: zs.drop (k + 1) ∧ z ∈ zs := by
  obtain ⟨ad, hA, hb, hc⟩ := h.at (k := k) (by rw [u8s_len]; exact hk)
  exact ⟨ad, zs[k], hA, hb, by rw [hc]; simp [u8s], List.drop_eq_getElem_cons hk, List.getElem_mem hk⟩
/-- A row that the call owns is a slice value. -/
theorem own_slice {w : World} {base n : Nat} {e : TypeId} {size : Nat} {v : Value} {xs : List Value} (h : w.ownsRow base e size v n xs) : ∃ A c, v = .slice A n c ∧ n ≤ c ∧ c ≤ maxLen := by
  rcases h.2 with ⟨rfl, rfl⟩ | ⟨g, cap, cur, rfl, _, _, h1, h2, _⟩
  · exact ⟨none, 0, rfl, Nat.le_refl _, by simp [maxLen]⟩
  · exact ⟨_, _, rfl, h1, h2⟩
theorem u8s_one (l : List Int) : ∀ u ∈ u8s l, u.oneCell' = true := by
  intro u hu
  obtain ⟨z, _, rfl⟩ := List.mem_map.1 hu
  rfl
/-- append of any slice of one-cell elements (nil too) to a row of the call's own. -/
theorem wpList_app {P : Program} {w : World} {ops : Array Oper} {rest : List Oper} {o : Oper} {a : Act} {Q : Exit → Act → World → Prop} (hgd : o.guard = none) (s x : Operand) (t : TypeId)
    (ho : o.op = .call { callee := .builtin .append, args := #[s, x], argTypes := #[t, t] })
    (base : Nat) (e : TypeId) (i : TypeInfo) (z : Value) (bytes : Nat) (ht : P.underlying t = some (.slice e)) (hi : P.info? e = some i) (hz : i.zero = some z)
    (hsize : i.size = 1) (hby : i.bytes = bytes) (hzs : z.cells.size = 1)
    (v : Value) (n : Nat) (xs : List Value) (hs : a.eval s = v) (hown : w.ownsRow base e 1 v n xs)
    (B : Nat) (A : Option Addr) (m c : Nat) (news : List Value) (hx : a.eval x = .slice A m c) (hl : news.length = m) (hh : Has w B A news) (hn : A = none → c = 0) (h1 : ∀ u ∈ news, u.oneCell' = true)
    (h63 : n + m ≤ maxLen) (hbytes : (n + m) * bytes ≤ 140737488355328) (hbase : base ≤ w.heap.size)
    (h : ∀ v' w', w'.ownsRow base e 1 v' (n + m) (xs ++ news) → w.grownBy w' v.ownBlock → Below base w w' → wpList P ops Q rest (a.put o.dst v') w') : wpList P ops Q (o :: rest) a w := by
  cases A with
  | none =>
    have hm : news = [] := by
      cases news with
      | nil => rfl
      | cons u r =>
        obtain ⟨_, hA, _⟩ := hh 0 u rfl
        cases hA
    subst hm
    obtain rfl : m = 0 := by simpa using hl.symm
    obtain rfl := hn rfl
    refine wpList_append_own_none hgd s x t ho base e i 1 ht hi v n xs hs hown hx (h v w ?_ (World.grownBy.refl w _) (Below.refl _ _))
    simpa using hown
  | some ad =>
    refine wpList_append_own w hgd s x t ho base e i z 1 bytes ht hi hz hsize hby hzs (by decide) v n xs hs hown ad m c news hx (by omega) (fun j u hu => ?_) h1 h63 hbytes hbase
      (fun v' w' h2 h3 _ => h v' w' h2 h3 ((Below.refl base w).grown h3 hbase (hown.lt · · |>.1)))
    obtain ⟨ad', hA, _, hc⟩ := hh j u hu
    cases hA
    exact hc
theorem below_own {w w' : World} {b n s : Nat} {e : TypeId} {v : Value} {xs : List Value} {B : Nat} (h : w.ownsRow b e s v n xs) (hb : Below B w w') (hB : w.heap.size ≤ B) : w'.ownsRow b e s v n xs := by
  refine ⟨h.1, ?_⟩
  rcases h.2 with h2 | ⟨g, cap, cur, hv, hg, hh, r⟩
  · exact Or.inl h2
  · have hlt : g < w.heap.size := by
      rcases Nat.lt_or_ge g w.heap.size with h3 | h3
      · exact h3
      · rw [Array.getElem?_eq_none h3] at hh; cases hh
    exact Or.inr ⟨g, cap, cur, hv, hg, (hb.block g (by omega)).trans hh, r⟩
end Go.Proofs.YtiffmjfbdidgkaaGreat
/- The contracts of code.Number and of the document's own Number: for a number from 0 to 2^40 - 1 its groups, in a new row; else none. -/
namespace Go.Proofs.YtiffmjfbdidgkaaGreat
open Go.RowKit

theorem Tryz.info5 : (Tryz.prog.info? 5).map (fun i => (i.zero, i.size, i.bytes)) = some (some (.int .u8 0), 1, 1) := by kernel_rfl

/-- What Number returns where there are bytes: a slice of the call's own that reads as the groups. -/
def NumPost (n : Nat) (w : World) (e : Ending) (w' : World) : Prop :=
  ∃ g c, e = .returned (.tuple #[.slice (some ⟨g, 0, none⟩) (enc n).length c, .bool true]) ∧
    w'.ownsRow w.heap.size 5 1 (.slice (some ⟨g, 0, none⟩) (enc n).length c) (enc n).length (u8s (enc n)) ∧ Below w.heap.size w w'
theorem NumPost.of {n : Nat} {w w' : World} {v : Value} (h : w'.ownsRow w.heap.size 5 1 v (enc n).length (u8s (enc n))) (hb : Below w.heap.size w w') :
    NumPost n w (.returned (.tuple #[v, .bool true])) w' := by
  obtain ⟨g, c, rfl, _, _⟩ := h.form (enc_pos n)
  exact ⟨g, c, rfl, h, hb⟩

set_option maxHeartbeats 400000 in
set_option maxRecDepth 100000 in
theorem number_own (n : Nat) (hn : n < 1099511627776) (w : World) :
    Calls Tryz.prog 47 #[.int .i64 n] w fun e w' => ∃ v, e = .returned (.tuple #[v, .bool true]) ∧
      w'.ownsRow w.heap.size 5 1 v (enc n).length (u8s (enc n)) ∧ Below w.heap.size w w' := by
  obtain ⟨i0, hi, hz0, hz1, hz2⟩ := info_parts Tryz.info5
  have hlen := enc_len 5 n (by omega)
  go_enter Tryz.func47, Tryz.ntmps47
  go_wp2
  go_loopw [0, 4] (fun x v wr => ∃ (m : Nat) (pre : List Int), x = .int .i64 m ∧ m < 1099511627776 ∧ Hid (pre ++ enc m = enc n) ∧ wr.ownsRow w.heap.size 5 1 v pre.length (u8s pre) ∧ Below w.heap.size w wr) (fun x _ _ => (intOf x).toNat)
  case atStart => exact ⟨n, [], rfl, hn, rfl, World.ownsRow_nil _ _ _ _, Below.refl _ _⟩
  case round =>
    obtain ⟨m, pre, rfl, hm, he, hown, hnx⟩ := hrel
    by_cases hlt : 128 ≤ m
    · have hpl : pre.length ≤ 6 := by have := congrArg List.length he.out; simp at this; omega
      have e1 := enc_big hlt
      have HE : Hid (pre ++ [((m % 128 + 128 : Nat) : Int)] ++ enc (m / 128) = enc n) := by show _ = enc n; rw [← he.out, e1]; simp
      clear e1
      go_wp2_with (at_builtin; refine wpList_append_own _ rfl _ _ 56 rfl w.heap.size 5 i0 (.int .u8 0) 1 1 Tryz.underlying56 hi hz0 hz1 hz2 rfl (by decide) _ _ _ rfl (hown.alloc _) ⟨wr.heap.size, 0, none⟩ 1 1 [.int .u8 (↑m % 128 + 128)] rfl rfl ?c1 ?c2 ?c3 ?c4 ?c5 ?_)
      case c1 => exact cell_one_new _ _ _
      case c2 => intro u hu; simp at hu; subst hu; rfl
      case c3 => unfold maxLen; omega
      case c4 => omega
      case c5 => have := hnx.size; simp; omega
      intro v' w1 hown1 hgrow _
      have hown2 : w1.ownsRow w.heap.size 5 1 v' (pre ++ [((m % 128 + 128 : Nat) : Int)]).length (u8s (pre ++ [((m % 128 + 128 : Nat) : Int)])) := by
        rw [u8s_app, List.length_append]; exact hown1
      have hb1 : Below w.heap.size w w1 := (hnx.alloc hnx.size _).grown hgrow (by have := hnx.size; simp; omega) (hown.lt · · |>.1)
      clear hown1 hgrow
      go_wp2
      go_roundw
      case rel => exact ⟨m / 128, _, by go_num, by omega, HE, hown2, hb1⟩
      case measure => simp [intOf]; omega
    · have hpl : pre.length ≤ 6 := by have := congrArg List.length he.out; simp at this; omega
      have e1 := enc_small (by omega : m < 128)
      have HE : Hid (pre ++ [(m : Int)] = enc n) := by show _ = enc n; rw [← he.out, e1]
      clear e1
      go_wp2_with (at_builtin; refine wpList_append_own _ rfl _ _ 56 rfl w.heap.size 5 i0 (.int .u8 0) 1 1 Tryz.underlying56 hi hz0 hz1 hz2 rfl (by decide) _ _ _ rfl (hown.alloc _) ⟨wr.heap.size, 0, none⟩ 1 1 [.int .u8 ↑m] rfl rfl ?c1 ?c2 ?c3 ?c4 ?c5 ?_)
      case c1 => exact cell_one_new _ _ _
      case c2 => intro u hu; simp at hu; subst hu; rfl
      case c3 => unfold maxLen; omega
      case c4 => omega
      case c5 => have := hnx.size; simp; omega
      intro v' w1 hown1 hgrow _
      have hown2 : w1.ownsRow w.heap.size 5 1 v' (pre ++ [(m : Int)]).length (u8s (pre ++ [(m : Int)])) := by
        rw [u8s_app, List.length_append]; exact hown1
      have hb1 : Below w.heap.size w w1 := (hnx.alloc hnx.size _).grown hgrow (by have := hnx.size; simp; omega) (hown.lt · · |>.1)
      clear hown1 hgrow
      rw [HE.out] at hown2
      go_wp2
      go_ret2
      exact ⟨v', rfl, hown2, hb1⟩

theorem number_row (n : Nat) (hn : n < 1099511627776) (w : World) : Calls Tryz.prog 47 #[.int .i64 n] w (NumPost n w) :=
  (number_own n hn w).mono fun _ _ ⟨_, he, ho, hb⟩ => by subst he; exact NumPost.of ho hb

set_option maxHeartbeats 400000 in
theorem number_none (n : Int) (hn : n < 0 ∨ 1099511627776 ≤ n) (w : World) :
    Calls Tryz.prog 47 #[.int .i64 n] w fun e w' => e = .returned (.tuple #[.slice none 0 0, .bool false]) ∧ w = w' := by
  by_cases h : n < 0
  · clear hn
    go_enter Tryz.func47, Tryz.ntmps47
    go_wp2
    go_ret2
    exact ⟨rfl, rfl⟩
  · have h1 : 0 ≤ n := by omega
    have h2 : 1099511627775 < n := by omega
    clear hn h
    go_enter Tryz.func47, Tryz.ntmps47
    go_wp2
    go_ret2
    exact ⟨rfl, rfl⟩

set_option maxHeartbeats 400000 in
set_option maxRecDepth 100000 in
theorem refnumber_own (n : Nat) (hn : n < 1099511627776) (w : World) :
    Calls Tryz.prog 64 #[.int .i64 n] w fun e w' => ∃ v, e = .returned (.tuple #[v, .bool true]) ∧
      w'.ownsRow w.heap.size 5 1 v (enc n).length (u8s (enc n)) ∧ Below w.heap.size w w' := by
  obtain ⟨i0, hi, hz0, hz1, hz2⟩ := info_parts Tryz.info5
  have hlen := enc_len 5 n (by omega)
  go_enter Tryz.func64, Tryz.ntmps64
  go_wp2
  go_loopw [0, 4] (fun x v wr => ∃ (m : Nat) (pre : List Int), x = .int .i64 m ∧ m < 1099511627776 ∧ Hid (pre ++ enc m = enc n) ∧ wr.ownsRow w.heap.size 5 1 v pre.length (u8s pre) ∧ Below w.heap.size w wr) (fun x _ _ => (intOf x).toNat)
  case atStart => exact ⟨n, [], rfl, hn, rfl, World.ownsRow_nil _ _ _ _, Below.refl _ _⟩
  case round =>
    obtain ⟨m, pre, rfl, hm, he, hown, hnx⟩ := hrel
    by_cases hlt : 128 ≤ m
    · have hpl : pre.length ≤ 6 := by have := congrArg List.length he.out; simp at this; omega
      have e1 : enc m = ((128 + m % 128 : Nat) : Int) :: enc (m / 128) := by rw [enc_big hlt, Nat.add_comm]
      have HE : Hid (pre ++ [((128 + m % 128 : Nat) : Int)] ++ enc (m / 128) = enc n) := by show _ = enc n; rw [← he.out, e1]; simp
      clear e1
      go_wp2_with (at_builtin; refine wpList_append_own _ rfl _ _ 56 rfl w.heap.size 5 i0 (.int .u8 0) 1 1 Tryz.underlying56 hi hz0 hz1 hz2 rfl (by decide) _ _ _ rfl (hown.alloc _) ⟨wr.heap.size, 0, none⟩ 1 1 [.int .u8 (128 + ↑m % 128)] rfl rfl ?c1 ?c2 ?c3 ?c4 ?c5 ?_)
      case c1 => exact cell_one_new _ _ _
      case c2 => intro u hu; simp at hu; subst hu; rfl
      case c3 => unfold maxLen; omega
      case c4 => omega
      case c5 => have := hnx.size; simp; omega
      intro v' w1 hown1 hgrow _
      have hown2 : w1.ownsRow w.heap.size 5 1 v' (pre ++ [((128 + m % 128 : Nat) : Int)]).length (u8s (pre ++ [((128 + m % 128 : Nat) : Int)])) := by
        rw [u8s_app, List.length_append]; exact hown1
      have hb1 : Below w.heap.size w w1 := (hnx.alloc hnx.size _).grown hgrow (by have := hnx.size; simp; omega) (hown.lt · · |>.1)
      clear hown1 hgrow
      go_wp2
      go_roundw
      case rel => exact ⟨m / 128, _, by go_num, by omega, HE, hown2, hb1⟩
      case measure => simp [intOf]; omega
    · have hpl : pre.length ≤ 6 := by have := congrArg List.length he.out; simp at this; omega
      have e1 := enc_small (by omega : m < 128)
      have HE : Hid (pre ++ [(m : Int)] = enc n) := by show _ = enc n; rw [← he.out, e1]
      clear e1
      go_wp2_with (at_builtin; refine wpList_append_own _ rfl _ _ 56 rfl w.heap.size 5 i0 (.int .u8 0) 1 1 Tryz.underlying56 hi hz0 hz1 hz2 rfl (by decide) _ _ _ rfl (hown.alloc _) ⟨wr.heap.size, 0, none⟩ 1 1 [.int .u8 ↑m] rfl rfl ?c1 ?c2 ?c3 ?c4 ?c5 ?_)
      case c1 => exact cell_one_new _ _ _
      case c2 => intro u hu; simp at hu; subst hu; rfl
      case c3 => unfold maxLen; omega
      case c4 => omega
      case c5 => have := hnx.size; simp; omega
      intro v' w1 hown1 hgrow _
      have hown2 : w1.ownsRow w.heap.size 5 1 v' (pre ++ [(m : Int)]).length (u8s (pre ++ [(m : Int)])) := by
        rw [u8s_app, List.length_append]; exact hown1
      have hb1 : Below w.heap.size w w1 := (hnx.alloc hnx.size _).grown hgrow (by have := hnx.size; simp; omega) (hown.lt · · |>.1)
      clear hown1 hgrow
      rw [HE.out] at hown2
      go_wp2
      go_ret2
      exact ⟨v', rfl, hown2, hb1⟩

theorem refnumber_row (n : Nat) (hn : n < 1099511627776) (w : World) : Calls Tryz.prog 64 #[.int .i64 n] w (NumPost n w) :=
  (refnumber_own n hn w).mono fun _ _ ⟨_, he, ho, hb⟩ => by subst he; exact NumPost.of ho hb

set_option maxHeartbeats 400000 in
theorem refnumber_none (n : Int) (hn : n < 0 ∨ 1099511627776 ≤ n) (w : World) :
    Calls Tryz.prog 64 #[.int .i64 n] w fun e w' => e = .returned (.tuple #[.slice none 0 0, .bool false]) ∧ w = w' := by
  by_cases h : n < 0
  · clear hn
    go_enter Tryz.func64, Tryz.ntmps64
    go_wp2
    go_ret2
    exact ⟨rfl, rfl⟩
  · have h1 : 0 ≤ n := by omega
    have h2 : 1099511627775 < n := by omega
    clear hn h
    go_enter Tryz.func64, Tryz.ntmps64
    go_wp2
    go_ret2
    exact ⟨rfl, rfl⟩

end Go.Proofs.YtiffmjfbdidgkaaGreat
/- The contracts of code.signed, code.Zig, code.Zag and the document's own zig and zag: what each returns, for every int; the world is unchanged. -/
namespace Go.Proofs.YtiffmjfbdidgkaaGreat
open Go.RowKit

def inS (n : Int) : Bool := decide (-549755813888 ≤ n ∧ n < 549755813888)
def zigS (n : Int) : Int := if -549755813888 ≤ n ∧ n < 549755813888 then (if n < 0 then -2 * n - 1 else 2 * n) else 0
def zagS (n : Int) : Int := if n < 0 ∨ 1099511627776 ≤ n then 0 else if n % 2 = 1 then -((n + 1) / 2) else n / 2
theorem inS_true {n : Int} (h1 : -549755813888 ≤ n) (h2 : n < 549755813888) : inS n = true := by simp [inS, h1, h2]
theorem inS_low {n : Int} (h1 : n < -549755813888) : inS n = false := by simp [inS]; omega
theorem inS_high {n : Int} (h1 : 549755813888 ≤ n) : inS n = false := by simp [inS]; omega

set_option maxHeartbeats 400000 in
theorem signed_any (n : Int) (w : World) :
    Calls Tryz.prog 69 #[.int .i64 n] w fun e w' => e = .returned (.bool (inS n)) ∧ w = w' := by
  by_cases h1 : -549755813888 ≤ n
  · by_cases h2 : n < 549755813888
    · rw [inS_true h1 h2]
      go_enter Tryz.func69, Tryz.ntmps69
      go_wp2
      go_ret
      exact ⟨rfl, rfl⟩
    · rw [inS_high (by omega)]
      have h2' : 549755813888 ≤ n := by omega
      go_enter Tryz.func69, Tryz.ntmps69
      go_wp2
      go_ret
      exact ⟨by simp, rfl⟩
  · rw [inS_low (by omega)]
    have h1' : n < -549755813888 := by omega
    go_enter Tryz.func69, Tryz.ntmps69
    go_wp2
    go_ret
    exact ⟨by simp, rfl⟩

set_option maxHeartbeats 400000 in
theorem zig_any (n : Int) (w : World) :
    Calls Tryz.prog 70 #[.int .i64 n] w fun e w' => e = .returned (.int .i64 (zigS n)) ∧ w = w' := by
  by_cases h : -549755813888 ≤ n ∧ n < 549755813888
  · have e1 : inS n = true := inS_true h.1 h.2
    obtain ⟨h1, h2⟩ := h
    by_cases h3 : n < 0
    · have e2 : zigS n = -2 * n - 1 := by simp [zigS, h1, h2, h3]
      rw [e2]
      go_enter Tryz.func70, Tryz.ntmps70
      go_wp2_with (go_at_call 69; refine (signed_any _ _).mono ?_; rintro e w' ⟨rfl, rfl⟩)
      go_ret
      exact ⟨rfl, rfl⟩
    · have e2 : zigS n = 2 * n := by simp [zigS, h1, h2, h3]
      rw [e2]
      go_enter Tryz.func70, Tryz.ntmps70
      go_wp2_with (go_at_call 69; refine (signed_any _ _).mono ?_; rintro e w' ⟨rfl, rfl⟩)
      go_ret
      exact ⟨rfl, rfl⟩
  · have e1 : inS n = false := by simp only [inS, h, decide_false]
    have e2 : zigS n = 0 := by simp only [zigS, if_neg h]
    clear h
    rw [e2]
    go_enter Tryz.func70, Tryz.ntmps70
    go_wp2_with (go_at_call 69; refine (signed_any _ _).mono ?_; rintro e w' ⟨rfl, rfl⟩)
    go_ret
    exact ⟨rfl, rfl⟩

set_option maxHeartbeats 400000 in
theorem zag_any (n : Int) (w : World) :
    Calls Tryz.prog 77 #[.int .i64 n] w fun e w' => e = .returned (.int .i64 (zagS n)) ∧ w = w' := by
  by_cases h1 : n < 0
  · have e2 : zagS n = 0 := by simp [zagS, h1]
    rw [e2]
    go_enter Tryz.func77, Tryz.ntmps77
    go_wp2
    go_ret
    exact ⟨rfl, rfl⟩
  · have h1' : 0 ≤ n := by omega
    by_cases h2 : 1099511627775 < n
    · have e2 : zagS n = 0 := by simp [zagS]; omega
      rw [e2]
      go_enter Tryz.func77, Tryz.ntmps77
      go_wp2
      go_ret
      exact ⟨rfl, rfl⟩
    · have h2' : n ≤ 1099511627775 := by omega
      by_cases h3 : n % 2 = 1
      · have e2 : zagS n = -((n + 1) / 2) := by simp [zagS, h3]; omega
        rw [e2]
        go_enter Tryz.func77, Tryz.ntmps77
        go_wp2
        go_ret
        refine ⟨?_, rfl⟩
        show Ending.returned (.int .i64 (wrap64 (-((n + 1).tdiv 2)))) = _
        rw [Int.tdiv_eq_ediv_of_nonneg (by omega), IntWalk.wrap64_in _ ⟨by omega, by omega⟩]
      · have e2 : zagS n = n / 2 := by simp [zagS, h3]; omega
        rw [e2]
        go_enter Tryz.func77, Tryz.ntmps77
        go_wp2
        go_ret
        exact ⟨rfl, rfl⟩
end Go.Proofs.YtiffmjfbdidgkaaGreat
/- The contract of code.Signed, and of the document's zig and zag. -/
namespace Go.Proofs.YtiffmjfbdidgkaaGreat
open Go.RowKit

theorem zigS_in {n : Int} (h1 : -549755813888 ≤ n) (h2 : n < 549755813888) : 0 ≤ zigS n ∧ zigS n < 1099511627776 := by
  unfold zigS; rw [if_pos ⟨h1, h2⟩]; split <;> omega
theorem zagS_zig {n : Int} (h1 : -549755813888 ≤ n) (h2 : n < 549755813888) : zagS (zigS n) = n := by
  unfold zigS; rw [if_pos ⟨h1, h2⟩]; unfold zagS
  by_cases h : n < 0
  · rw [if_pos h, if_neg (by omega), if_pos (by omega)]; omega
  · rw [if_neg h, if_neg (by omega), if_neg (by omega)]; omega
theorem zigS_zag {n : Int} (h1 : 0 ≤ n) (h2 : n < 1099511627776) : zigS (zagS n) = n := by
  unfold zagS; rw [if_neg (by omega)]; unfold zigS
  by_cases h : n % 2 = 1
  · rw [if_pos h, if_pos (by omega), if_pos (by omega)]; omega
  · rw [if_neg h, if_pos (by omega), if_neg (by omega)]; omega

set_option maxHeartbeats 400000 in
theorem signum_row (n : Int) (h1 : -549755813888 ≤ n) (h2 : n < 549755813888) (w : World) :
    Calls Tryz.prog 48 #[.int .i64 n] w (NumPost (zigS n).toNat w) := by
  have e1 : inS n = true := inS_true h1 h2
  obtain ⟨m, hm⟩ : ∃ m : Nat, zigS n = m := ⟨(zigS n).toNat, by have := zigS_in h1 h2; omega⟩
  have hlt : m < 1099511627776 := by have := zigS_in h1 h2; omega
  have hz := zig_any n
  rw [hm] at hz ⊢
  rw [show ((m : Int)).toNat = m from rfl]
  have HZ := Lib.hid hz
  clear hz hm h1 h2
  go_enter Tryz.func48, Tryz.ntmps48
  go_wp2_with (first | (go_at_call 69; refine (signed_any _ _).mono ?_; rintro e w' ⟨rfl, rfl⟩) | (go_at_call 70; refine (HZ.out _).mono ?_; rintro e w' ⟨rfl, rfl⟩) | (go_at_call 47; refine (number_row m hlt _).mono ?_; rintro e w' ⟨g, c, rfl, ho, hb⟩))
  go_ret2
  exact ⟨_, _, rfl, ho, hb⟩

set_option maxHeartbeats 400000 in
theorem signum_none (n : Int) (h : n < -549755813888 ∨ 549755813888 ≤ n) (w : World) :
    Calls Tryz.prog 48 #[.int .i64 n] w fun e w' => e = .returned (.tuple #[.slice none 0 0, .bool false]) ∧ w = w' := by
  have e1 : inS n = false := by rcases h with h | h; exact inS_low h; exact inS_high h
  clear h
  go_enter Tryz.func48, Tryz.ntmps48
  go_wp2_with (go_at_call 69; refine (signed_any _ _).mono ?_; rintro e w' ⟨rfl, rfl⟩)
  go_ret2
  exact ⟨rfl, rfl⟩
end Go.Proofs.YtiffmjfbdidgkaaGreat
/- Words on memory: a block that is known whole; what a call keeps that writes on through a writer. -/
namespace Go.Proofs.YtiffmjfbdidgkaaGreat
open Go.RowKit

def fit (z : Int) : Prop := (Lit.int .i64 z).wf = true
/-- Block g is just these cells. -/
def Blk (w : World) (g : Nat) (t : TypeId) (cs : Array Value) : Prop := w.heap[g]? = some (.cells cs t (0, 0))
section
variable {w w' : World} {g : Nat} {t : TypeId} {cs : Array Value}
theorem Blk.lt (h : Blk w g t cs) : g < w.heap.size := by
  rcases Nat.lt_or_ge g w.heap.size with hlt | hge
  · exact hlt
  · unfold Blk at h; rw [Array.getElem?_eq_none hge] at h; cases h
theorem Blk.cell (h : Blk w g t cs) (i : Nat) : w.cell? ⟨g, i, none⟩ = cs[i]? := cell_of_row w g i cs t (0, 0) h
theorem Blk.frozen (h : Blk w g t cs) (i : Nat) : w.frozen? ⟨g, i, none⟩ = false := by
  unfold Blk at h
  simp [World.frozen?, h]
theorem Blk.new (w : World) (t : TypeId) (cs : Array Value) : Blk (w.alloc (.cells cs t)) w.heap.size t cs := heap_alloc_new w _
theorem Blk.new1 (w : World) (o : Obj) (t : TypeId) (cs : Array Value) : Blk ((w.alloc o).alloc (.cells cs t)) (w.heap.size + 1) t cs := by
  have h := Blk.new (w.alloc o) t cs
  simpa using h
theorem Blk.drew (h : Blk w g t cs) : Blk w.drew g t cs := h
theorem Blk.drewN (h : Blk w g t cs) (n : Nat) : Blk (w.drewN n) g t cs := h
theorem Blk.alloc (h : Blk w g t cs) (o : Obj) : Blk (w.alloc o) g t cs := (Below.heap_alloc w o g h.lt).trans h
theorem Blk.set_ (h : Blk w g t cs) (i : Nat) (u : Value) : Blk (w.setCell ⟨g, i, none⟩ u) g t (cs.setIfInBounds i u) := by
  unfold Blk at h ⊢
  simp [World.setCell, Array.getElem?_modify, h]
theorem Blk.far (h : Blk w g t cs) {p : Addr} (hp : g ≠ p.block) (u : Value) : Blk (w.setCell p u) g t cs := (Below.heap_setCell w p u g hp).trans h
theorem Blk.below {B : Nat} (h : Blk w g t cs) (hb : Below B w w') (hg : g < B) : Blk w' g t cs := (hb.block g hg).trans h
theorem Blk.grown {row : Option Nat} (h : Blk w g t cs) (hb : w.grownBy w' row) (hg : some g ≠ row) : Blk w' g t cs := (hb.block g h.lt hg).trans h
theorem Blk.ne_ {g' : Nat} {t' : TypeId} {cs' : Array Value} (h : Blk w g t cs) (h' : Blk w g' t' cs') (hne : t ≠ t') : g ≠ g' := by
  rintro rfl
  unfold Blk at h h'
  rw [h] at h'
  injection h' with h'
  injection h' with _ ht
  exact hne ht
theorem own_blk_ne {base : Nat} {e : TypeId} {size n : Nat} {v : Value} {xs : List Value} (h : w.ownsRow base e size v n xs) (hg : Blk w g t cs) (hne : e ≠ t) : v.ownBlock ≠ some g := by
  rcases h.2 with ⟨rfl, _⟩ | ⟨g', cap, cur, rfl, _, hh, _⟩
  · simp [Value.ownBlock]
  · intro he
    have : g' = g := by simpa [Value.ownBlock] using he
    subst this
    exact Blk.ne_ (t := e) hh hg hne rfl
/-- A row of the call's own is kept by a store into another block. -/
theorem own_far {base n size : Nat} {e : TypeId} {v : Value} {xs : List Value} (h : w.ownsRow base e size v n xs) {p : Addr} (hp : v.ownBlock ≠ some p.block) (u : Value) : (w.setCell p u).ownsRow base e size v n xs := by
  refine ⟨h.1, ?_⟩
  rcases h.2 with h2 | ⟨g', cap, cur, hv, hg, hh, r⟩
  · exact Or.inl h2
  · refine Or.inr ⟨g', cap, cur, hv, hg, (Below.heap_setCell w p u g' fun he => hp ?_).trans hh, r⟩
    rw [hv, ← he]; rfl
/-- What it holds, as a slice of its own. -/
theorem Blk.has (h : Blk w g t cs) {B : Nat} (hB : g < B) : Has w B (some ⟨g, 0, none⟩) cs.toList := fun j u hj => by
  refine ⟨_, rfl, hB, ?_⟩
  rw [addr_at, h.cell]
  simpa using hj
end

/-- From B on only block g has changed, and rows of element type t; below B nothing. -/
structure Kept (B g : Nat) (t : TypeId) (w w' : World) : Prop where
  os : w'.os = w.os
  tape : w'.tape = w.tape
  output : w'.output = w.output
  size : w.heap.size ≤ w'.heap.size
  block : ∀ k, k < w.heap.size → k ≠ g → (B ≤ k → ∀ cs fr, w.heap[k]? ≠ some (.cells cs t fr)) → w'.heap[k]? = w.heap[k]?
section
variable {B g : Nat} {t : TypeId} {a b c : World}
theorem Kept.refl (B g : Nat) (t : TypeId) (w : World) : Kept B g t w w := ⟨rfl, rfl, rfl, Nat.le_refl _, fun _ _ _ _ => rfl⟩
theorem Kept.trans (h : Kept B g t a b) (k : Kept B g t b c) : Kept B g t a c :=
  ⟨k.os.trans h.os, k.tape.trans h.tape, k.output.trans h.output, Nat.le_trans h.size k.size, fun i hi hg ht =>
    (k.block i (Nat.lt_of_lt_of_le hi h.size) hg (fun hB cs fr => by rw [h.block i hi hg ht]; exact ht hB cs fr)).trans (h.block i hi hg ht)⟩
theorem Kept.below (h : Kept B g t a b) (hg : B ≤ g) {B' : Nat} (hB : B' ≤ B) (hs : B' ≤ a.heap.size) : Below B' a b :=
  ⟨h.os, h.tape, h.output, h.size, fun k hk => h.block k (by omega) (by omega) (fun h2 => by omega)⟩
theorem Kept.of_below (h : Below B a b) (hs : B = a.heap.size) (B' g : Nat) (t : TypeId) : Kept B' g t a b :=
  ⟨h.os, h.tape, h.output, h.size, fun k hk _ _ => h.block k (by omega)⟩
theorem Kept.alloc (h : Kept B g t a b) (o : Obj) : Kept B g t a (b.alloc o) := h.trans ⟨rfl, rfl, rfl, by simp, fun k hk _ _ => Below.heap_alloc b o k hk⟩
theorem Kept.drew (h : Kept B g t a b) : Kept B g t a b.drew := ⟨h.os, h.tape, h.output, h.size, h.block⟩
theorem Kept.drewN (h : Kept B g t a b) (n : Nat) : Kept B g t a (b.drewN n) := ⟨h.os, h.tape, h.output, h.size, h.block⟩
theorem Kept.grown (h : Kept B g t a b) {base : Nat} {v : Value} {n s : Nat} {xs : List Value} (ho : b.ownsRow base t s v n xs) (hB : B ≤ base) (hg : b.grownBy c v.ownBlock) : Kept B g t a c := by
  refine h.trans ⟨hg.os, hg.tape, hg.output, hg.size, fun k hk _ ht => hg.block k hk fun he => ?_⟩
  rcases ho.2 with ⟨rfl, _⟩ | ⟨g', cap, cur, rfl, hg', hh, _⟩
  · cases he
  · injection he with he
    have he : g' = k := he.symm
    subst he
    exact ht (by omega) _ _ hh
theorem Kept.set_ (h : Kept B g t a b) (i : Nat) (u : Value) : Kept B g t a (b.setCell ⟨g, i, none⟩ u) :=
  h.trans ⟨rfl, rfl, rfl, by simp, fun k _ hk _ => Below.heap_setCell b _ u k hk⟩
theorem Kept.blk (h : Kept B g t a b) {k : Nat} {t' : TypeId} {cs : Array Value} (hb : Blk a k t' cs) (hne : t' ≠ t) (hk : k ≠ g) : Blk b k t' cs :=
  (h.block k hb.lt hk (fun _ cs' fr he => by
    unfold Blk at hb
    rw [hb] at he
    injection he with he
    injection he with _ he
    exact hne he)).trans hb
theorem Kept.has (h : Kept B g t a b) (hg : B ≤ g) {A : Option Addr} {xs : List Value} (hh : Has a B A xs) : Has b B A xs := fun j u hj => by
  obtain ⟨ad, e, hlt, hc⟩ := hh j u hj
  have hl := block_lt hc
  refine ⟨ad, e, hlt, ?_⟩
  rw [addr_block] at hl
  refine (World.cell?_of_block (w := a) ?_).trans hc
  rw [addr_block]
  exact h.block ad.block hl (by omega) (fun h2 => by omega)
end
theorem Has.set_far {w : World} {B : Nat} {A : Option Addr} {xs : List Value} (h : Has w B A xs) {p : Addr} (hp : ∀ ad, A = some ad → ad.block ≠ p.block) (u : Value) : Has (w.setCell p u) B A xs := fun j v hj => by
  obtain ⟨ad, e, hb, hc⟩ := h j v hj
  refine ⟨ad, e, hb, (World.cell?_of_block (w := w) ?_).trans hc⟩
  rw [addr_block]
  exact Below.heap_setCell w p u ad.block (hp ad e)
end Go.Proofs.YtiffmjfbdidgkaaGreat
/- Words on memory: slices of structs, and arguments that are such slices, opened to cells (of no struct of the program). -/
namespace Go.Proofs.YtiffmjfbdidgkaaGreat
open Go.RowKit Go.ChangeShapes Go.WideShapes Go.Deep

/-- A place in a row of things of s cells each. -/
theorem flatMap_at {α β : Type} {f : α → List β} {s : Nat} (hf : ∀ x, (f x).length = s) : ∀ {l : List α} {k : Nat} (hk : k < l.length) {i : Nat}, i < s → (l.flatMap f)[k * s + i]? = (f l[k])[i]?
  | x :: l, 0, _, i, hi => by
    rw [List.flatMap_cons, Nat.zero_mul, Nat.zero_add, List.getElem?_append_left (by rw [hf]; exact hi)]
    rfl
  | x :: l, k + 1, hk, i, hi => by
    rw [List.flatMap_cons, List.getElem?_append_right (by rw [hf, Nat.succ_mul]; omega), hf, show (k + 1) * s + i - s = k * s + i by rw [Nat.succ_mul]; omega]
    exact flatMap_at hf (by simpa using hk) hi
/-- The place i behind a place, in the walk's own spelling. -/
theorem add_pos (ad : Addr) (m i : Nat) (hi : 0 < i) : ad.add (m + i) = ⟨(ad.add m).block, (ad.add m).off + i, none⟩ := by
  rw [← addr_add]
  generalize ad.add m = p
  unfold Addr.add
  rw [if_neg (by omega)]
/-- The k-th thing of a row of things of s cells: where it lies, and its cells. -/
theorem Has.thing {α : Type} {f : α → List Value} {s : Nat} (hf : ∀ x, (f x).length = s) (h0 : 0 < s) {w : World} {B : Nat} {A : Option Addr} {l : List α} (h : Has w B A (l.flatMap f)) {k : Nat} (hk : k < l.length) :
    ∃ ad, A = some ad ∧ ad.block < B ∧ ∀ i v, (f l[k])[i]? = some v → w.cell? (ad.add (k * s + i)) = some v := by
  have hg : ∀ i v, (f l[k])[i]? = some v → ∃ ad, A = some ad ∧ ad.block < B ∧ w.cell? (ad.add (k * s + i)) = some v := fun i v hv => by
    have hi : i < s := by rw [← hf l[k]]; exact (List.getElem?_eq_some_iff.1 hv).1
    exact h (k * s + i) _ ((flatMap_at hf hk hi).trans hv)
  obtain ⟨ad, rfl, hb, _⟩ := hg 0 _ (List.getElem?_eq_getElem (by rw [hf]; exact h0))
  refine ⟨ad, rfl, hb, fun i v hv => ?_⟩
  obtain ⟨_, he, _, h1⟩ := hg i v hv
  cases he
  exact h1
section
variable {H : Type} {enc : TypeId × Value → H} {P : Program} {w : World} {base : Nat} {held : Bool}
end
section
variable {H : Type} {enc : TypeId × Value → H} {w : World} {base : Nat} {held : Bool}
end
end Go.Proofs.YtiffmjfbdidgkaaGreat
/- The contract of keep.Within. -/
namespace Go.Proofs.YtiffmjfbdidgkaaGreat
open Go.RowKit

/-- keep.Within's rest. -/
theorem tmod_cases {v n : Int} (hn : 1 ≤ n) (hv : v < 0) : -n < v.tmod n ∧ v.tmod n ≤ 0 ∧ v % n = if v.tmod n < 0 then v.tmod n + n else v.tmod n := by
  have h1 : v.tmod n = -((-v) % n) := by
    rw [← Int.neg_neg v, Int.neg_tmod, Int.neg_neg, Int.tmod_eq_emod_of_nonneg (by omega)]
  have h2 := Int.emod_nonneg (-v) (by omega : n ≠ 0)
  have h3 := Int.emod_lt_of_pos (-v) (by omega : 0 < n)
  refine ⟨by omega, by omega, ?_⟩
  have h4 : v = n * (-((-v) / n)) + v.tmod n := by
    have := Int.mul_ediv_add_emod (-v) n
    rw [h1, Int.mul_neg]; omega
  split
  · rename_i h5
    have h6 : v % n = (v.tmod n + n + n * (-((-v) / n) - 1)) % n := by
      congr 1
      rw [Int.mul_sub]; omega
    rw [h6, Int.add_mul_emod_self_left, Int.emod_eq_of_lt (by omega) (by omega)]
  · have h6 : v % n = (v.tmod n + n * (-((-v) / n))) % n := by
      congr 1
      omega
    rw [h6, Int.add_mul_emod_self_left, Int.emod_eq_of_lt (by omega) (by omega)]

set_option maxHeartbeats 400000 in
theorem within_any (v n : Int) (h0 : 1 ≤ n) (h1 : n ≤ 4611686018427387904) (hv : -9223372036854775808 ≤ v) (hv' : v ≤ 9223372036854775807) (w : World) :
    Calls Tryz.prog 4 #[.int .i64 v, .int .i64 n] w fun e w' => e = .returned (.int .i64 (v % n)) ∧ w = w' := by
  by_cases hs : 0 ≤ v
  · have hm := Int.emod_nonneg v (by omega : n ≠ 0)
    go_enter Tryz.func4, Tryz.ntmps4
    go_wp2
    go_ret
    exact ⟨rfl, rfl⟩
  · obtain ⟨hm0, hm1, hm2⟩ := tmod_cases h0 (by omega : v < 0)
    have HM := Lib.hid hm2
    clear hm2
    by_cases hc : v.tmod n < 0
    · have HE := Lib.hid (show v % n = v.tmod n + n by rw [HM.out, if_pos hc])
      go_enter Tryz.func4, Tryz.ntmps4
      go_wp2
      go_ret
      exact ⟨by rw [HE.out]; rfl, rfl⟩
    · have HE := Lib.hid (show v % n = v.tmod n by rw [HM.out, if_neg hc])
      go_enter Tryz.func4, Tryz.ntmps4
      go_wp2
      go_ret
      exact ⟨by rw [HE.out]; rfl, rfl⟩
end Go.Proofs.YtiffmjfbdidgkaaGreat
/- A scope with several labels, to which the run jumps forth and back: what holds at each jump, and a measure that each pass lowers. -/
namespace Go.Proofs.YtiffmjfbdidgkaaGreat

/-- As Q; by a goto to label l: J l. -/
def goes (J : Nat → Act → World → Prop) (Q : Exit → Act → World → Prop) : Exit → Act → World → Prop
  | .goto l, a, w => J l a w
  | e, a, w => Q e a w

theorem wp_scope_labels {P : Program} {a : Act} {w : World} {Q : Exit → Act → World → Prop} {c : Code} (J : Nat → Act → World → Prop) (μ : Nat → Act → World → Nat)
    (start : c.wp P (goes J Q) a w)
    (pass : ∀ l a w, J l a w → ∃ rest, findLabel c l = some rest ∧ rest.wp P (goes (fun l' a' w' => J l' a' w' ∧ μ l' a' w' < μ l a w) Q) a w) :
    (Code.scope c).wp P Q a w := by
  intro b k cs
  have go : ∀ n l a w, μ l a w = n → J l a w → ∃ rest, findLabel c l = some rest ∧ ∃ e a' w', Q e a' w' ∧ Arrives P (lone (b.at a (.code rest :: .inScope c :: k)) cs w) b k cs e a' w' := by
    intro n
    induction n using Nat.strongRecOn with
    | _ n ih =>
      intro l a w hn hJ
      obtain ⟨rest, hf, hp⟩ := pass l a w hJ
      refine ⟨rest, hf, ?_⟩
      obtain ⟨e, a1, w1, hq, har⟩ := hp b (.inScope c :: k) cs
      cases e with
      | goto m =>
        obtain ⟨hJ', hlt⟩ := hq
        obtain ⟨rest', hf', e', a2, w2, hq', har'⟩ := ih _ (hn ▸ hlt) m a1 w1 rfl hJ'
        exact ⟨e', a2, w2, hq', .of_steps (har (.code rest' :: .inScope c :: k) (by simp [gotoIn, hf'])) har'⟩
      | normal => exact ⟨.normal, a1, w1, hq, Steps.trans har (.one step_inScope)⟩
      | exit i => exact ⟨.exit i, a1, w1, hq, fun k' hk => har k' (by simp [exitTo, hk])⟩
      | ret => exact ⟨.ret, a1, w1, hq, har⟩
      | panic ps => exact ⟨.panic ps, a1, w1, hq, har⟩
      | outgrown => exact ⟨.outgrown, a1, w1, hq, har⟩
  obtain ⟨e, a1, w1, hq, har⟩ := start b (.inScope c :: k) cs
  cases e with
  | goto m =>
    obtain ⟨rest, hf, e', a2, w2, hq', har'⟩ := go _ m a1 w1 rfl hq
    exact ⟨e', a2, w2, hq', .of_steps (.head step_scope (har (.code rest :: .inScope c :: k) (by simp [gotoIn, hf]))) har'⟩
  | normal => exact ⟨.normal, a1, w1, hq, .head step_scope (Steps.trans har (.one step_inScope))⟩
  | exit i => exact ⟨.exit i, a1, w1, hq, fun k' hk => .head step_scope (har k' (by simp [exitTo, hk]))⟩
  | ret => exact ⟨.ret, a1, w1, hq, .of_steps (.one step_scope) har⟩
  | panic ps => exact ⟨.panic ps, a1, w1, hq, .of_steps (.one step_scope) har⟩
  | outgrown => exact ⟨.outgrown, a1, w1, hq, .of_steps (.one step_scope) har⟩

/-- The same, where the run also falls through labels: 'again' serves wherever what follows a label is met. -/
theorem wp_scope_fall {P : Program} {a : Act} {w : World} {Q : Exit → Act → World → Prop} {c : Code} (J : Nat → Act → World → Prop) (μ : Nat → Act → World → Nat)
    (pass : ∀ l a w, J l a w → ∃ R, findLabel c l = some (.seq .skip R) ∧ R.wp P (goes (fun l' a' w' => J l' a' w' ∧ μ l' a' w' < μ l a w) Q) a w)
    (start : (∀ l R a w, findLabel c l = some (.seq .skip R) → J l a w → R.wp P (goes J Q) a w) → c.wp P (goes J Q) a w) :
    (Code.scope c).wp P Q a w := by
  refine wp_scope_labels J μ (start fun l R a w hf hJ => ?_) fun l a w hJ => ?_
  · obtain ⟨R', hf', hp⟩ := pass l a w hJ
    rw [hf'] at hf
    injection hf with hf
    injection hf with _ hf
    subst hf
    refine Code.wp_mono ?_ hp
    intro e a' w' h
    cases e <;> first | exact h.1 | exact h
  · obtain ⟨R, hf, hp⟩ := pass l a w hJ
    exact ⟨_, hf, wp_seq (wp_skip hp)⟩

section
variable {J : Nat → Act → World → Prop} {Q : Exit → Act → World → Prop} {a : Act} {w : World}
@[go_sem] theorem goes_goto (l : Nat) : goes J Q (.goto l) a w = J l a w := rfl
@[go_sem] theorem goes_normal : goes J Q .normal a w = Q .normal a w := rfl
@[go_sem] theorem goes_exit (i : Nat) : goes J Q (.exit i) a w = Q (.exit i) a w := rfl
@[go_sem] theorem goes_ret : goes J Q .ret a w = Q .ret a w := rfl
@[go_sem] theorem goes_panic (ps : List PanicEntry) : goes J Q (.panic ps) a w = Q (.panic ps) a w := rfl
end
end Go.Proofs.YtiffmjfbdidgkaaGreat
/- The contract of code.TakeNumber. -/
namespace Go.Proofs.YtiffmjfbdidgkaaGreat
open Go.RowKit

/-- The frame of TakeNumber, its other slots whatever they are. -/
def TakeFrame (B X n nx g s : Value) (a : Act) : Prop :=
  ∃ u2 u3 u9 u10 u11 u12 u13 u14 u15 u16 u17 u18 u19 u20 u21 u22 u23 u24 u25 u26 u27 u28 u29 u30 u31 u32 u33 u34 u35 u36 u37 u38 u39 u40 u41 u42 u43 u44 u45 u46 u47 u48 u49 u50 u51 : Value, a = { tmps := #[B, X, u2, u3, n, nx, .bool false, g, s, u9, u10, u11, u12, u13, u14, u15, u16, u17, u18, u19, u20, u21, u22, u23, u24, u25, u26, u27, u28, u29, u30, u31, u32, u33, u34, u35, u36, u37, u38, u39, u40, u41, u42, u43, u44, u45, u46, u47, u48, u49, u50, u51], defers := [] }

/-- What holds at each label: 0: there is none; 1: at a group; 2: at the last group. -/
def TakeAt (B : Value) (i : Int) (zs : List Int) (l : Nat) (a : Act) : Prop :=
  ∃ (n nx g s : Int), TakeFrame B (.int .i64 i) (.int .i64 n) (.int .i64 nx) (.int .i64 g) (.int .i64 s) a ∧
    ((l = 0 ∧ takeS zs i = (0, 0, false)) ∨
     (l = 1 ∧ ∃ (k m : Nat), s = k ∧ nx = m ∧ k < 47 ∧ m < 9223372036854775807 ∧ 0 ≤ n ∧ n < 2 ^ k ∧ takeS zs i = res k n m (zs.drop m)) ∨
     (l = 2 ∧ ∃ (k m : Nat), s = k ∧ nx = m ∧ k < 40 ∧ m < 9223372036854775807 ∧ 0 ≤ n ∧ n < 2 ^ k ∧ 0 ≤ g ∧ g < 128 ∧
       takeS zs i = if (g = 0 ∧ 0 < k) ∨ 1099511627775 < n + g * 2 ^ k then (0, 0, false) else (n + g * 2 ^ k, (m : Int), true)))

/-- The labels' order. -/
def rk : Nat → Nat | 0 => 0 | 1 => 2 | _ => 1
theorem shl_bd {z : Int} {k : Nat} (h0 : 0 ≤ z) (h1 : z ≤ 127) (hk : k < 40) : 0 ≤ z * 2 ^ k ∧ z * 2 ^ k ≤ 69818988363776 := by
  have hp : (2 : Int) ^ k ≤ 2 ^ 39 := by
    have := Nat.pow_le_pow_right (n := 2) (by omega) (by omega : k ≤ 39)
    exact_mod_cast this
  have hp0 : (0 : Int) ≤ 2 ^ k := by
    have := Nat.zero_le (2 ^ k)
    exact_mod_cast this
  exact ⟨Int.mul_nonneg h0 hp0, Int.le_trans (Int.mul_le_mul h1 hp hp0 (by omega)) (by decide)⟩
theorem shl_next {z n : Int} {k : Nat} (hn : n < 2 ^ k) (h1 : z ≤ 127) : n + z * 2 ^ k < 2 ^ (k + 7) := by
  have hp0 : (0 : Int) ≤ 2 ^ k := by
    have := Nat.zero_le (2 ^ k)
    exact_mod_cast this
  have h2 : z * 2 ^ k ≤ 127 * 2 ^ k := Int.mul_le_mul_of_nonneg_right h1 hp0
  rw [Int.pow_add]
  omega
theorem pow_bd {n : Int} {k : Nat} (hn : n < 2 ^ k) (hk : k < 47) : n < 70368744177664 := by
  have hp : (2 : Int) ^ k ≤ 2 ^ 46 := by
    have := Nat.pow_le_pow_right (n := 2) (by omega) (by omega : k ≤ 46)
    exact_mod_cast this
  exact Int.lt_of_lt_of_le hn (Int.le_trans hp (by decide))

set_option maxHeartbeats 1000000 in
theorem take_any (A : Option Addr) (cap : Nat) (zs : List Int) (B : Nat) (i : Int) (w : World) (hl : zs.length ≤ 9223372036854775806) (hi : i ≤ 9223372036854775807) (hz : ∀ z ∈ zs, 0 ≤ z ∧ z ≤ 255) (hh : Has w B A (u8s zs)) :
    Calls Tryz.prog 36 #[.slice A zs.length cap, .int .i64 i] w fun e w' => e = .returned (.tuple #[.int .i64 (takeS zs i).1, .int .i64 (takeS zs i).2.1, .bool (takeS zs i).2.2]) ∧ w = w' := by
  have HH := Lib.hid hh
  have HZ := Lib.hid hz
  clear hh hz
  go_enter Tryz.func36, Tryz.ntmps36
  go_wp2
  refine wp_scope_labels (fun l a' w' => w = w' ∧ TakeAt (.slice A zs.length cap) i zs l a') (fun l a' w' => rk l + 3 * (zs.length - (intOf (a'.tmps.getD 5 undef)).toNat)) ?_ ?_
  · by_cases h0 : i < 0
    · have HF := Lib.hid (show takeS zs i = (0, 0, false) by unfold takeS; rw [if_pos h0])
      go_wp2
      go_step3
      go_wp2
      exact ⟨rfl, _, _, _, _, ⟨_, _, _, _, _, _, _, _, _, _, _, _, _, _, _, _, _, _, _, _, _, _, _, _, _, _, _, _, _, _, _, _, _, _, _, _, _, _, _, _, _, _, _, _, _, rfl⟩, Or.inl ⟨rfl, HF.out⟩⟩
    · obtain ⟨m, rfl⟩ := Int.eq_ofNat_of_zero_le (show 0 ≤ i by omega)
      have HR := Lib.hid (show takeS zs m = res 0 0 m (zs.drop m) by unfold takeS; rw [if_neg (by omega)]; rfl)
      clear h0
      by_cases h1 : m < zs.length
      · obtain ⟨ad, z, rfl, hb, hc, hd, hmem⟩ := HH.out.byte h1
        have hz0 := (HZ.out z hmem).1
        have hz1 := (HZ.out z hmem).2
        have HD := Lib.hid hd
        clear hd
        by_cases h3 : z < 128
        · have hf := HR.out
          rw [HD.out, res_last (by omega) h3] at hf
          have HF := Lib.hid hf
          clear hf
          go_wp2
          go_step3
          go_wp2
          go_step3
          go_wp2
          exact ⟨rfl, _, _, _, _, ⟨_, _, _, _, _, _, _, _, _, _, _, _, _, _, _, _, _, _, _, _, _, _, _, _, _, _, _, _, _, _, _, _, _, _, _, _, _, _, _, _, _, _, _, _, _, rfl⟩, Or.inr (Or.inr ⟨rfl, 0, m + 1, rfl, rfl, by omega, by omega, by omega, by omega, hz0, h3, HF.out⟩)⟩
        · have hf := HR.out
          rw [HD.out, res_more (by omega) (by omega), show (0 : Int) + (z - 128) * 2 ^ 0 = z - 128 by omega] at hf
          have HF := Lib.hid hf
          clear hf
          go_wp2
          go_step3
          go_wp2
          go_step3
          go_wp2
          exact ⟨rfl, _, _, _, _, ⟨_, _, _, _, _, _, _, _, _, _, _, _, _, _, _, _, _, _, _, _, _, _, _, _, _, _, _, _, _, _, _, _, _, _, _, _, _, _, _, _, _, _, _, _, _, rfl⟩, Or.inr (Or.inl ⟨rfl, 7, m + 1, rfl, rfl, by omega, by omega, by omega, by omega, HF.out⟩)⟩
      · have hf := HR.out
        rw [List.drop_eq_nil_of_le (by omega), res_nil] at hf
        have HF := Lib.hid hf
        clear hf
        go_wp2
        go_step3
        go_wp2
        go_step3
        go_wp2
        exact ⟨rfl, _, _, _, _, ⟨_, _, _, _, _, _, _, _, _, _, _, _, _, _, _, _, _, _, _, _, _, _, _, _, _, _, _, _, _, _, _, _, _, _, _, _, _, _, _, _, _, _, _, _, _, rfl⟩, Or.inl ⟨rfl, HF.out⟩⟩
  · rintro l a' w' ⟨rfl, n, nx, g, s, ⟨u2, u3, u9, u10, u11, u12, u13, u14, u15, u16, u17, u18, u19, u20, u21, u22, u23, u24, u25, u26, u27, u28, u29, u30, u31, u32, u33, u34, u35, u36, u37, u38, u39, u40, u41, u42, u43, u44, u45, u46, u47, u48, u49, u50, u51, rfl⟩, hl⟩
    rcases hl with ⟨rfl, hr⟩ | ⟨rfl, k, m, rfl, rfl, hk, hm, hn0, hn1, hr⟩ | ⟨rfl, k, m, rfl, rfl, hk, hm, hn0, hn1, hg0, hg1, hr⟩
    · refine ⟨_, rfl, ?_⟩
      have HR := Lib.hid hr
      clear hr
      go_wp2
      go_ret3
      rw [HR.out]
      exact ⟨rfl, rfl⟩
    · refine ⟨_, rfl, ?_⟩
      have HR := Lib.hid hr
      clear hr
      have HN := Lib.hid hn1
      have hn2 := pow_bd hn1 hk
      clear hn1
      by_cases h1 : m < zs.length
      · by_cases h2 : k < 40
        · obtain ⟨ad, z, rfl, hb, hc, hd, hmem⟩ := HH.out.byte h1
          have hz0 := (HZ.out z hmem).1
          have hz1 := (HZ.out z hmem).2
          have HD := Lib.hid hd
          clear hd
          by_cases h3 : z < 128
          · have hf := HR.out
            rw [HD.out, res_last h2 h3] at hf
            have HF := Lib.hid hf
            clear hf
            go_wp2
            go_step3
            go_wp2
            refine ⟨⟨_, _, _, _, ⟨_, _, _, _, _, _, _, _, _, _, _, _, _, _, _, _, _, _, _, _, _, _, _, _, _, _, _, _, _, _, _, _, _, _, _, _, _, _, _, _, _, _, _, _, _, rfl⟩, Or.inr (Or.inr ⟨rfl, k, m + 1, rfl, rfl, h2, by omega, hn0, HN.out, hz0, h3, HF.out⟩)⟩, ?_⟩
            simp [intOf, rk]; omega
          · have hf := HR.out
            rw [HD.out, res_more h2 (by omega)] at hf
            have HF := Lib.hid hf
            have hs := shl_bd (z := z - 128) (k := k) (by omega) (by omega) h2
            obtain ⟨hs0, hs1⟩ := hs
            have HX := Lib.hid (shl_next (z := z - 128) HN.out (by omega))
            clear hf
            go_wp2
            go_step3
            go_wp2
            refine ⟨⟨_, _, _, _, ⟨_, _, _, _, _, _, _, _, _, _, _, _, _, _, _, _, _, _, _, _, _, _, _, _, _, _, _, _, _, _, _, _, _, _, _, _, _, _, _, _, _, _, _, _, _, rfl⟩, Or.inr (Or.inl ⟨rfl, k + 7, m + 1, rfl, rfl, by omega, by omega, by omega, HX.out, HF.out⟩)⟩, ?_⟩
            simp [intOf]; omega
        · go_wp2
          have hf := HR.out
          rw [res_far _ _ _ (by omega)] at hf
          go_step3
          go_wp2
          refine ⟨⟨_, _, _, _, ⟨_, _, _, _, _, _, _, _, _, _, _, _, _, _, _, _, _, _, _, _, _, _, _, _, _, _, _, _, _, _, _, _, _, _, _, _, _, _, _, _, _, _, _, _, _, rfl⟩, Or.inl ⟨rfl, hf⟩⟩, ?_⟩
          simp [rk]
      · have hf := HR.out
        rw [List.drop_eq_nil_of_le (by omega), res_nil] at hf
        have HF := Lib.hid hf
        clear hf
        go_wp2
        go_step3
        go_wp2
        refine ⟨⟨_, _, _, _, ⟨_, _, _, _, _, _, _, _, _, _, _, _, _, _, _, _, _, _, _, _, _, _, _, _, _, _, _, _, _, _, _, _, _, _, _, _, _, _, _, _, _, _, _, _, _, rfl⟩, Or.inl ⟨rfl, HF.out⟩⟩, ?_⟩
        simp [rk]
    · refine ⟨_, rfl, ?_⟩
      have HR := Lib.hid hr
      clear hr
      have hs := shl_bd hg0 (by omega) hk
      obtain ⟨hs0, hs1⟩ := hs
      have HN := Lib.hid hn1
      have hn2 := pow_bd hn1 (by omega)
      clear hn1
      by_cases c1 : g = 0
      · subst c1
        by_cases c2 : 0 < k
        · have hf := HR.out
          rw [if_pos (Or.inl ⟨rfl, c2⟩)] at hf
          have HF := Lib.hid hf
          clear hf
          go_wp2
          go_step3
          go_wp2
          refine ⟨⟨_, _, _, _, ⟨_, _, _, _, _, _, _, _, _, _, _, _, _, _, _, _, _, _, _, _, _, _, _, _, _, _, _, _, _, _, _, _, _, _, _, _, _, _, _, _, _, _, _, _, _, rfl⟩, Or.inl ⟨rfl, HF.out⟩⟩, ?_⟩
          simp [rk]
        · by_cases c3 : 1099511627775 < n
          · have hf := HR.out
            rw [if_pos (Or.inr (by omega))] at hf
            have HF := Lib.hid hf
            clear hf
            go_wp2
            go_step3
            go_wp2
            refine ⟨⟨_, _, _, _, ⟨_, _, _, _, _, _, _, _, _, _, _, _, _, _, _, _, _, _, _, _, _, _, _, _, _, _, _, _, _, _, _, _, _, _, _, _, _, _, _, _, _, _, _, _, _, rfl⟩, Or.inl ⟨rfl, HF.out⟩⟩, ?_⟩
            simp [rk]
          · have hf := HR.out
            rw [if_neg (by omega)] at hf
            have HF := Lib.hid hf
            clear hf
            go_wp2
            go_ret3
            rw [HF.out]
            exact ⟨by simp, rfl⟩
      · by_cases c3 : 1099511627775 < n + g * 2 ^ k
        · have hf := HR.out
          rw [if_pos (Or.inr c3)] at hf
          have HF := Lib.hid hf
          clear hf
          go_wp2
          go_step3
          go_wp2
          refine ⟨⟨_, _, _, _, ⟨_, _, _, _, _, _, _, _, _, _, _, _, _, _, _, _, _, _, _, _, _, _, _, _, _, _, _, _, _, _, _, _, _, _, _, _, _, _, _, _, _, _, _, _, _, rfl⟩, Or.inl ⟨rfl, HF.out⟩⟩, ?_⟩
          simp [rk]
        · have hf := HR.out
          rw [if_neg (by omega)] at hf
          have HF := Lib.hid hf
          clear hf
          go_wp2
          go_ret3
          rw [HF.out]
          exact ⟨rfl, rfl⟩
end Go.Proofs.YtiffmjfbdidgkaaGreat
/- The contracts of the document's own Take, Zig and Zag, and of code.TakeSigned. -/
namespace Go.Proofs.YtiffmjfbdidgkaaGreat
open Go.RowKit

set_option maxHeartbeats 400000 in
theorem refzig_any (n : Int) (w : World) :
    Calls Tryz.prog 65 #[.int .i64 n] w fun e w' => e = .returned (.int .i64 (zigS n)) ∧ w = w' := by
  by_cases h0 : n < -549755813888
  · have e2 : zigS n = 0 := by simp only [zigS, if_neg (by omega : ¬ (-549755813888 ≤ n ∧ n < 549755813888))]
    rw [e2]
    go_enter Tryz.func65, Tryz.ntmps65
    go_wp2
    go_ret
    exact ⟨rfl, rfl⟩
  · have h1 : -549755813888 ≤ n := by omega
    by_cases h2 : n < 549755813888
    · by_cases h3 : n < 0
      · have e2 : zigS n = -2 * n - 1 := by simp [zigS, h1, h2, h3]
        rw [e2]
        go_enter Tryz.func65, Tryz.ntmps65
        go_wp2
        go_ret
        exact ⟨rfl, rfl⟩
      · have e2 : zigS n = 2 * n := by simp [zigS, h1, h2, h3]
        rw [e2]
        go_enter Tryz.func65, Tryz.ntmps65
        go_wp2
        go_ret
        exact ⟨rfl, rfl⟩
    · have e2 : zigS n = 0 := by simp only [zigS, if_neg (by omega : ¬ (-549755813888 ≤ n ∧ n < 549755813888))]
      rw [e2]
      have h2' : 549755813888 ≤ n := by omega
      go_enter Tryz.func65, Tryz.ntmps65
      go_wp2
      go_ret
      exact ⟨rfl, rfl⟩

set_option maxHeartbeats 400000 in
theorem takesigned_any (A : Option Addr) (cap : Nat) (zs : List Int) (B : Nat) (i : Int) (w : World) (hl : zs.length ≤ 9223372036854775806) (hi : i ≤ 9223372036854775807) (hz : ∀ z ∈ zs, 0 ≤ z ∧ z ≤ 255) (hh : Has w B A (u8s zs)) :
    Calls Tryz.prog 55 #[.slice A zs.length cap, .int .i64 i] w fun e w' => e = .returned (.tuple #[.int .i64 (zagS (takeS zs i).1), .int .i64 (takeS zs i).2.1, .bool (takeS zs i).2.2]) ∧ w = w' := by
  have HH := Lib.hid hh
  have HZ := Lib.hid hz
  clear hh hz
  go_enter Tryz.func55, Tryz.ntmps55
  go_wp2_with (first | (go_at_call 36; refine (take_any A cap zs B i _ hl hi HZ.out HH.out).mono ?_; rintro e w' ⟨rfl, rfl⟩) | (go_at_call 77; refine (zag_any _ _).mono ?_; rintro e w' ⟨rfl, rfl⟩))
  go_ret3
  exact ⟨rfl, rfl⟩

end Go.Proofs.YtiffmjfbdidgkaaGreat
/- Regions that draw their order, only read, and hold guards: one operation at a time, behind a word of its own. -/
namespace Go.Proofs.YtiffmjfbdidgkaaGreat
open Go.RowKit Go.Sort

/-- (Behind a word of its own: Lean would reckon the guards out at each step.) -/
structure Wq (P : Program) (ops : Array Oper) (C : World → Prop) (Q : Act → Prop) (l : List Oper) (a : Act) : Prop where
  out : wpQuiet P ops C Q l a
theorem wq_out {P : Program} {ops : Array Oper} {C : World → Prop} {Q : Act → Prop} {a : Act} {l : List Oper} (h : Wq P ops C Q l a) : wpQuiet P ops C Q l a := h.out
theorem wq_nil {P : Program} {ops : Array Oper} {C : World → Prop} {Q : Act → Prop} {a : Act} (h : Q a) : Wq P ops C Q [] a := ⟨wpQuiet_nil h⟩
theorem wq_do {P : Program} {ops : Array Oper} {C : World → Prop} {Q : Act → Prop} {a : Act} {o : Oper} {rest : List Oper} (hw : Region.wanted o (yielded ops a.tmps) = true)
    (h : ∀ K : Act → Prop, (∀ a, Wq P ops C Q rest a → K a) → o.quiet P a C K) : Wq P ops C Q (o :: rest) a := ⟨wpQuiet_step fun K hK => by rw [if_pos hw]; exact h K fun a hq => hK a hq.out⟩
theorem wq_skip {P : Program} {ops : Array Oper} {C : World → Prop} {Q : Act → Prop} {a : Act} {o : Oper} {rest : List Oper} (hw : Region.wanted o (yielded ops a.tmps) = false)
    (h : Wq P ops C Q rest (a.put o.dst undef)) : Wq P ops C Q (o :: rest) a := ⟨wpQuiet_step fun K hK => by rw [if_neg (by rw [hw]; exact Bool.false_ne_true)]; exact hK _ h.out⟩
end Go.Proofs.YtiffmjfbdidgkaaGreat
/- A scope with labels, to which the run jumps forth only: at each jump what follows the label is walked anew. -/
namespace Go.Proofs.YtiffmjfbdidgkaaGreat
open Go.RowKit

/-- As Q; by a goto to label l: what follows it, with one jump less to come. -/
def hops (P : Program) (F : Nat → Option Code) (Q : Exit → Act → World → Prop) : Nat → Exit → Act → World → Prop
  | 0, .goto _, _, _ => False
  | n + 1, .goto l, a, w => ∃ rest, F l = some rest ∧ rest.wp P (hops P F Q n) a w
  | _, e, a, w => Q e a w
section
variable {P : Program} {F : Nat → Option Code} {Q : Exit → Act → World → Prop} {n : Nat} {a : Act} {w : World}
@[go_sem] theorem hops_goto (l : Nat) : hops P F Q (n + 1) (.goto l) a w = ∃ rest, F l = some rest ∧ rest.wp P (hops P F Q n) a w := rfl
@[go_sem] theorem hops_normal : hops P F Q n .normal a w = Q .normal a w := by cases n <;> rfl
@[go_sem] theorem hops_exit (i : Nat) : hops P F Q n (.exit i) a w = Q (.exit i) a w := by cases n <;> rfl
@[go_sem] theorem hops_ret : hops P F Q n .ret a w = Q .ret a w := by cases n <;> rfl
@[go_sem] theorem hops_panic (ps : List PanicEntry) : hops P F Q n (.panic ps) a w = Q (.panic ps) a w := by cases n <;> rfl
theorem hops_outgrown : hops P F Q n .outgrown a w = Q .outgrown a w := by cases n <;> rfl
end
theorem wp_scope_hops {P : Program} {a : Act} {w : World} {Q : Exit → Act → World → Prop} {c : Code} (n : Nat)
    (h : ∀ F, Hid (F = findLabel c) → c.wp P (hops P F Q n) a w) : (Code.scope c).wp P Q a w := by
  have h := h (findLabel c) rfl
  intro b k cs
  have go : ∀ n l a w, hops P (findLabel c) Q n (.goto l) a w → ∃ rest, findLabel c l = some rest ∧ ∃ e a' w', Q e a' w' ∧ Arrives P (lone (b.at a (.code rest :: .inScope c :: k)) cs w) b k cs e a' w' := by
    intro n
    induction n with
    | zero => intro l a w hJ; exact hJ.elim
    | succ n ih =>
      intro l a w hJ
      obtain ⟨rest, hf, hp⟩ := hJ
      refine ⟨rest, hf, ?_⟩
      obtain ⟨e, a1, w1, hq, har⟩ := hp b (.inScope c :: k) cs
      cases e with
      | goto m =>
        obtain ⟨rest', hf', e', a2, w2, hq', har'⟩ := ih m a1 w1 hq
        exact ⟨e', a2, w2, hq', .of_steps (har (.code rest' :: .inScope c :: k) (by simp [gotoIn, hf'])) har'⟩
      | normal => rw [hops_normal] at hq; exact ⟨.normal, a1, w1, hq, Steps.trans har (.one step_inScope)⟩
      | exit i => rw [hops_exit] at hq; exact ⟨.exit i, a1, w1, hq, fun k' hk => har k' (by simp [exitTo, hk])⟩
      | ret => rw [hops_ret] at hq; exact ⟨.ret, a1, w1, hq, har⟩
      | panic ps => rw [hops_panic] at hq; exact ⟨.panic ps, a1, w1, hq, har⟩
      | outgrown => rw [hops_outgrown] at hq; exact ⟨.outgrown, a1, w1, hq, har⟩
  obtain ⟨e, a1, w1, hq, har⟩ := h b (.inScope c :: k) cs
  cases e with
  | goto m =>
    obtain ⟨rest, hf, e', a2, w2, hq', har'⟩ := go n m a1 w1 hq
    exact ⟨e', a2, w2, hq', .of_steps (.head step_scope (har (.code rest :: .inScope c :: k) (by simp [gotoIn, hf]))) har'⟩
  | normal => rw [hops_normal] at hq; exact ⟨.normal, a1, w1, hq, .head step_scope (Steps.trans har (.one step_inScope))⟩
  | exit i => rw [hops_exit] at hq; exact ⟨.exit i, a1, w1, hq, fun k' hk => .head step_scope (har k' (by simp [exitTo, hk]))⟩
  | ret => rw [hops_ret] at hq; exact ⟨.ret, a1, w1, hq, .of_steps (.one step_scope) har⟩
  | panic ps => rw [hops_panic] at hq; exact ⟨.panic ps, a1, w1, hq, .of_steps (.one step_scope) har⟩
  | outgrown => rw [hops_outgrown] at hq; exact ⟨.outgrown, a1, w1, hq, .of_steps (.one step_scope) har⟩
end Go.Proofs.YtiffmjfbdidgkaaGreat
/- Words on seals: the list of the deeds that have a seal, the map that reads as it, strings out of bytes. -/
namespace Go.Proofs.YtiffmjfbdidgkaaGreat
open Go.RowKit Go.Maps

/-- What a seal belongs to: a party and a string. -/
abbrev Deed := Int × ByteArray
structure Deed.Fits (d : Deed) : Prop where
  party : fit d.1
  text : d.2.size ≤ maxLen
/-- Its place in a list (the list's length, where it isn't there). -/
def idx : List Deed → Deed → Nat
  | [], _ => 0
  | x :: l, d => if x = d then 0 else idx l d + 1
theorem idx_lt {d : Deed} : ∀ {l : List Deed}, d ∈ l → idx l d < l.length
  | x :: l, h => by
    unfold idx
    by_cases hx : x = d
    · rw [if_pos hx]; simp
    · rw [if_neg hx]
      have := idx_lt (l := l) (by rcases List.mem_cons.1 h with h | h; exact absurd h.symm hx; exact h)
      simp; omega
theorem idx_get {d : Deed} : ∀ {l : List Deed}, d ∈ l → l[idx l d]? = some d
  | x :: l, h => by
    unfold idx
    by_cases hx : x = d
    · rw [if_pos hx]; simp [hx]
    · rw [if_neg hx]
      have := idx_get (l := l) (by rcases List.mem_cons.1 h with h | h; exact absurd h.symm hx; exact h)
      simpa using this
theorem idx_not {d : Deed} : ∀ {l : List Deed}, d ∉ l → idx l d = l.length
  | [], _ => rfl
  | x :: l, h => by
    unfold idx
    rw [if_neg (fun e => h (by simp [e])), idx_not (l := l) (fun e => h (by simp [e]))]
    rfl
theorem idx_app {d : Deed} (m : List Deed) : ∀ {l : List Deed}, d ∈ l → idx (l ++ m) d = idx l d
  | x :: l, h => by
    show idx (x :: (l ++ m)) d = idx (x :: l) d
    unfold idx
    by_cases hx : x = d
    · rw [if_pos hx, if_pos hx]
    · rw [if_neg hx, if_neg hx, idx_app m (l := l) (by rcases List.mem_cons.1 h with h | h; exact absurd h.symm hx; exact h)]
theorem idx_new {d : Deed} : ∀ {l : List Deed}, d ∉ l → idx (l ++ [d]) d = l.length
  | [], _ => by simp [idx]
  | x :: l, h => by
    show idx (x :: (l ++ [d])) d = _
    unfold idx
    rw [if_neg (fun e => h (by simp [e])), idx_new (l := l) (fun e => h (by simp [e]))]
    rfl
instance deedIn (l : List Deed) (d : Deed) : Decidable (d ∈ l) :=
  decidable_of_iff (idx l d < l.length) ⟨fun h => Classical.byContradiction fun hn => by rw [idx_not hn] at h; omega, idx_lt⟩
/-- No deed twice: the place of the i-th is i. -/
theorem idx_at {d : Deed} {i : Nat} : ∀ {l : List Deed}, l.Nodup → l[i]? = some d → idx l d = i := by
  induction i with
  | zero =>
    intro l _ h
    cases l with
    | nil => simp at h
    | cons x l =>
      obtain rfl : x = d := by simpa using h
      simp [idx]
  | succ i ih =>
    intro l hn h
    cases l with
    | nil => simp at h
    | cons x l =>
      have h1 : l[i]? = some d := by simpa using h
      have hm : d ∈ l := List.mem_of_getElem? h1
      have hx : x ≠ d := fun e => (List.nodup_cons.1 hn).1 (e ▸ hm)
      unfold idx
      rw [if_neg hx, ih (List.nodup_cons.1 hn).2 h1]
/-- What Find tells, and what Seal does. -/
def findS (l : List Deed) (d : Deed) : Int := if d ∈ l then (idx l d : Int) + 1 else 0
def sealed (l : List Deed) (d : Deed) : List Deed := if d ∈ l then l else l ++ [d]
def sealS (l : List Deed) (d : Deed) : Int := (idx l d : Int) + 1
theorem findS_in {l : List Deed} {d : Deed} (h : d ∈ l) : findS l d = (idx l d : Int) + 1 := if_pos h
theorem findS_out {l : List Deed} {d : Deed} (h : d ∉ l) : findS l d = 0 := if_neg h
theorem sealed_in {l : List Deed} {d : Deed} (h : d ∈ l) : sealed l d = l := if_pos h
theorem sealed_out {l : List Deed} {d : Deed} (h : d ∉ l) : sealed l d = l ++ [d] := if_neg h
theorem sealS_out {l : List Deed} {d : Deed} (h : d ∉ l) : sealS l d = (l.length : Int) + 1 := by unfold sealS; rw [idx_not h]
theorem sealed_nodup {l : List Deed} (h : l.Nodup) (d : Deed) : (sealed l d).Nodup := by
  unfold sealed
  split
  · exact h
  · rename_i hd
    exact List.nodup_append.2 ⟨h, by simp, fun a ha b hb => by rw [List.mem_singleton.1 hb]; exact fun e => hd (e ▸ ha)⟩
/-! ### the key's type -/
theorem deed_laid : laidOutB Tryz.prog = true := by kernel_rfl
theorem deed_row : (115 : TypeId) < Tryz.prog.types.size := of_decide_eq_true (by kernel_rfl)
theorem deed_wide : (match Tryz.prog.underlying 115 with | some (.array _ _) | some (.struct _) => true | _ => false) = true := by kernel_rfl
set_option maxRecDepth 100000 in
theorem deed_law : Keyed Tryz.prog 115 := Keyed.of_law (deep_law_laid deed_laid (m := 3) (by omega) deed_row (by kernel_rfl) deed_wide)
theorem deed_type : Tryz.prog.keyType 115 = true := by kernel_rfl
theorem deed_cells : Tryz.prog.cellsOf 115 = 2 := by kernel_rfl
theorem deed_int : Tryz.prog.cellsOf 3 = 1 := by kernel_rfl
theorem deed_str : Tryz.prog.cellsOf 9 = 1 := by kernel_rfl
def Deed.val (d : Deed) : Value := .agg #[.int .i64 d.1, .string d.2]
def Deed.lit (d : Deed) : Lit := .string (keyBytes [.int .i64 d.1, .string d.2.data.toList])
set_option maxRecDepth 100000 in
theorem keyOf_deed {d : Deed} (h : d.Fits) : keyOf Tryz.prog 115 d.val = some d.lit := by
  obtain ⟨m, hm⟩ : ∃ m, Tryz.prog.types.size = m + 1 := ⟨Tryz.prog.types.size - 1, (Nat.succ_pred_eq_of_pos (Nat.lt_of_le_of_lt (Nat.zero_le _) deed_row)).symm⟩
  have h1 : (Lit.int .i64 d.1).wf = true := h.party
  have h2 := h.text
  unfold keyOf
  simp only [Tryz.underlying115]
  rw [if_pos (by simp [deed_type, Value.formed, Deed.val, Tryz.underlying115, deed_cells]), hm]
  unfold Program.keyLits
  simp only [Tryz.underlying115, Deed.val, Value.cells]
  rw [if_pos (by rw [deed_cells]; exact ⟨rfl, by decide +kernel⟩)]
  simp [List.mapM_cons, List.mapM_nil, deed_int, deed_str, Program.keyLits, Tryz.underlying3, Tryz.underlying9, h1, h2, Deed.lit]
theorem deed_inj {a b : Deed} (ha : a.Fits) (hb : b.Fits) (h : a.lit = b.lit) : a = b := by
  have h1 := deed_law.inj (keyOf_deed ha) (h ▸ keyOf_deed hb)
  unfold Deed.val at h1
  injection h1 with h1
  have h1 : #[Value.int IntKind.i64 a.1, Value.string a.2].toList = #[Value.int IntKind.i64 b.1, Value.string b.2].toList := by rw [h1]
  simp at h1
  exact Prod.ext h1.1 h1.2

/-! ### the map -/
abbrev i64D (z : Int) : DataW Unit := .lit (.int .i64 z)
/-- The map's datum tells just the list. -/
structure Book (D : DataW Unit) (l : List Deed) : Prop where
  has : ∀ d : Deed, d.Fits → Maps.has D d.lit = decide (d ∈ l)
  at_ : ∀ d : Deed, d.Fits → D.atKey d.lit (i64D 0) = i64D (findS l d)
  size : Maps.size D = l.length
theorem Book.empty : Book (.map []) [] := ⟨fun d _ => by simp [Maps.has], fun d _ => by simp [DataW.atKey, findS], rfl⟩
theorem lit_isKey {d : Deed} (h : d.Fits) : WideAt.IsKeyLit d.lit := deed_law.key (keyOf_deed h)
theorem Book.put {D : DataW Unit} {l : List Deed} (h : Book D l) (ht : Tidy D) {d : Deed} (hd : d.Fits) (hn : d ∉ l) : Book (D.put d.lit (i64D ((l.length : Int) + 1))) (l ++ [d]) := by
  have hm : IsMap D := ht.isMap
  refine ⟨fun x hx => ?_, fun x hx => ?_, ?_⟩
  · by_cases e : x = d
    · subst e
      rw [has_put_same hm (lit_isKey hx)]; simp
    · rw [has_put_other (fun he => e (deed_inj hx hd he)), h.has x hx]
      simp [e]
  · by_cases e : x = d
    · subst e
      rw [atKey_put_same hm (lit_isKey hx), findS_in (by simp), idx_new hn]
    · rw [atKey_put_other (fun he => e (deed_inj hx hd he)), h.at_ x hx]
      by_cases hx2 : x ∈ l
      · rw [findS_in hx2, findS_in (by simp [hx2]), idx_app _ hx2]
      · rw [findS_out hx2, findS_out (by simp [hx2, e])]
  · rw [size_put ht, h.has d hd, h.size]
    simp [hn]

/-! ### strings out of bytes -/
theorem conv_has {w : World} {B n c : Nat} {A : Option Addr} {zs : List Int} (h : Has w B A (u8s zs)) (hn : zs.length = n) :
    (convert 56 9 (.slice A n c)).run Tryz.prog w = .ok (.string (strOfNums zs)) w := by
  subst hn
  cases A with
  | none =>
    cases zs with
    | nil => rw [run_convert_bytes_nil w _ _ Tryz.underlying56 Tryz.underlying5 _ _ _ Tryz.underlying9]; rfl
    | cons z zs =>
      obtain ⟨_, hA, _⟩ := h 0 _ rfl
      cases hA
  | some ad =>
    have hl : (loadCells ad zs.length).run Tryz.prog w = .ok (zs.map (Value.int .u8)).toArray w := by
      have := run_loadCells_list (P := Tryz.prog) w ad (zs.map (Value.int .u8)) (fun j v hj => by
        obtain ⟨_, he, _, hc⟩ := h j v hj
        cases he
        exact hc)
      simpa using this
    rw [run_convert_bytes_string w _ _ _ _ _ _ Tryz.underlying56 Tryz.underlying5 Tryz.underlying9, run_bytesToString w _ _ _ zs hl, foldl_push_bytes]
    simp [strOfNums, ByteArray.empty, ByteArray.emptyWithCapacity]
    rfl
theorem str_size (zs : List Int) : (strOfNums zs).size = zs.length := by simp [strOfNums, ByteArray.size]
theorem str_eq (a b : ByteArray) : (a.toList == b.toList) = decide (a = b) := by
  rw [Go.ByteArray.toList_eq, Go.ByteArray.toList_eq]
  by_cases h : a = b
  · subst h; simp
  · rw [decide_eq_false h, beq_eq_false_iff_ne]
    exact fun e => h (WideShapes.bytes_inj e)
end Go.Proofs.YtiffmjfbdidgkaaGreat
/- The contracts of package notary: New, Find, Check, Len, Seal. -/
namespace Go.Proofs.YtiffmjfbdidgkaaGreat
open Go.RowKit Go.Maps

/-- But for the blocks of Z, and what is new, nothing has changed. -/
structure Turn (Z : Nat → Prop) (w w' : World) : Prop where
  os : w'.os = w.os
  tape : w'.tape = w.tape
  output : w'.output = w.output
  size : w.heap.size ≤ w'.heap.size
  block : ∀ k, k < w.heap.size → ¬ Z k → w'.heap[k]? = w.heap[k]?
section
variable {Z Z' : Nat → Prop} {a b c : World}
theorem Turn.refl (Z : Nat → Prop) (w : World) : Turn Z w w := ⟨rfl, rfl, rfl, Nat.le_refl _, fun _ _ _ => rfl⟩
theorem Turn.trans (h : Turn Z a b) (k : Turn Z b c) : Turn Z a c :=
  ⟨k.os.trans h.os, k.tape.trans h.tape, k.output.trans h.output, Nat.le_trans h.size k.size, fun i hi hg => (k.block i (Nat.lt_of_lt_of_le hi h.size) hg).trans (h.block i hi hg)⟩
theorem Turn.mono (h : Turn Z a b) (hz : ∀ k, k < a.heap.size → Z k → Z' k) : Turn Z' a b := ⟨h.os, h.tape, h.output, h.size, fun k hk hn => h.block k hk (fun hz' => hn (hz k hk hz'))⟩
theorem Turn.drewN (h : Turn Z a b) (n : Nat) : Turn Z a (b.drewN n) := ⟨h.os, h.tape, h.output, h.size, h.block⟩
theorem Turn.alloc (h : Turn Z a b) (o : Obj) : Turn Z a (b.alloc o) := h.trans ⟨rfl, rfl, rfl, by simp, fun k hk _ => Below.heap_alloc b o k hk⟩
theorem Turn.set_ (h : Turn Z a b) (p : Addr) (u : Value) (hp : Z p.block) : Turn Z a (b.setCell p u) := h.trans ⟨rfl, rfl, rfl, by simp, fun k _ hk => Below.heap_setCell b _ u k (fun e => hk (e ▸ hp))⟩
theorem Turn.grown (h : Turn Z a b) {row : Option Nat} (hg : b.grownBy c row) (hr : ∀ k, row = some k → k < a.heap.size → Z k) : Turn Z a c :=
  ⟨hg.os.trans h.os, hg.tape.trans h.tape, hg.output.trans h.output, Nat.le_trans h.size hg.size, fun k hk hkg => (hg.block k (Nat.lt_of_lt_of_le hk h.size) (fun he => hkg (hr k he.symm hk))).trans (h.block k hk hkg)⟩
theorem Turn.of_below (h : Below a.heap.size a b) : Turn Z a b := ⟨h.os, h.tape, h.output, h.size, fun k hk _ => h.block k hk⟩
theorem Turn.below (h : Turn Z a b) {B : Nat} (hB : B ≤ a.heap.size) (hz : ∀ k, k < B → ¬ Z k) : Below B a b := ⟨h.os, h.tape, h.output, h.size, fun k hk => h.block k (by omega) (hz k hk)⟩
theorem Turn.blk (h : Turn Z a b) {k : Nat} {t : TypeId} {cs : Array Value} (hb : Blk a k t cs) (hk : ¬ Z k) : Blk b k t cs := (h.block k hb.lt hk).trans hb
theorem Turn.own (h : Turn Z a b) {base n s : Nat} {e : TypeId} {v : Value} {xs : List Value} (ho : a.ownsRow base e s v n xs) (hg : ∀ g, v.ownBlock = some g → ¬ Z g) : b.ownsRow base e s v n xs := by
  refine ⟨ho.1, ?_⟩
  rcases ho.2 with h2 | ⟨g', cap, cur, hv, hb, hh, r⟩
  · exact Or.inl h2
  · have hlt := (ho.lt g' (by rw [hv]; rfl)).2
    exact Or.inr ⟨g', cap, cur, hv, hb, (h.block g' hlt (hg g' (by rw [hv]; rfl))).trans hh, r⟩
theorem Turn.map (h : Turn Z a b) {k : TypeId} {R : Value → Option (DataW Unit × List MemPlace)} {g n : Nat} {D : DataW Unit} (ho : a.ownsMap Tryz.prog k R g n D) (hg : ¬ Z g) : b.ownsMap Tryz.prog k R g n D := by
  have hlt := ho.lt
  obtain ⟨es, clock, hb, r⟩ := ho
  exact ⟨es, clock, (h.block g hlt hg).trans hb, r⟩
theorem Turn.has (h : Turn Z a b) {A : Option Addr} {xs : List Value} {B : Nat} (hh : Has a B A xs) (hg : ∀ ad, A = some ad → ¬ Z ad.block) : Has b B A xs := fun j u hj => by
  obtain ⟨ad, e, hlt, hc⟩ := hh j u hj
  refine ⟨ad, e, hlt, (World.cell?_of_block (w := a) ?_).trans hc⟩
  rw [addr_block]
  have := block_lt hc
  rw [addr_block] at this
  exact h.block ad.block this (hg ad e)
end

theorem has_zone {w w' : World} {Z : Nat → Prop} {B : Nat} {A : Option Addr} {xs : List Value} (h : Has w B A xs) (ht : Turn Z w w') (hz : ∀ k, k < B → ¬ Z k) : Has w' B A xs := fun j u hj => by
  obtain ⟨ad, e, hlt, hc⟩ := h j u hj
  refine ⟨ad, e, hlt, (World.cell?_of_block (w := w) ?_).trans hc⟩
  rw [addr_block]
  have := block_lt hc
  rw [addr_block] at this
  exact ht.block ad.block this (hz _ hlt)
theorem has_apart {w w' : World} {Z : Nat → Prop} {B : Nat} {A : Option Addr} {xs : List Value} (h : Has w B A xs) (ht : Turn Z w w') (hz : ∀ ad, A = some ad → xs ≠ [] → ¬ Z ad.block) : Has w' B A xs := fun j u hj => by
  obtain ⟨ad, e, hlt, hc⟩ := h j u hj
  refine ⟨ad, e, hlt, (World.cell?_of_block (w := w) ?_).trans hc⟩
  rw [addr_block]
  have := block_lt hc
  rw [addr_block] at this
  exact ht.block ad.block this (hz ad e (fun e => by rw [e] at hj; simp at hj))
/-- The notary in block nb, its map in block bm, tells the list. -/
structure Nt (w : World) (nb bm : Nat) (l : List Deed) : Prop where
  blk : Blk w nb 64 #[.map (some bm)]
  map : ∃ D, w.ownsMap Tryz.prog 115 (plainElem Tryz.prog 3) bm l.length D ∧ Book D l
theorem Nt.kept {w w' : World} {Z : Nat → Prop} {nb bm : Nat} {l : List Deed} (h : Nt w nb bm l) (ht : Turn Z w w') (h1 : ¬ Z nb) (h2 : ¬ Z bm) : Nt w' nb bm l := by
  obtain ⟨D, h3, h4⟩ := h.map
  exact ⟨ht.blk h.blk h1, D, ht.map h3 h2, h4⟩
theorem Nt.drewN {w : World} {nb bm : Nat} {l : List Deed} (h : Nt w nb bm l) (n : Nat) : Nt (w.drewN n) nb bm l := h.kept ((Turn.refl (fun _ => False) w).drewN n) id id
theorem Nt.below {w w' : World} {nb bm : Nat} {l : List Deed} (h : Nt w nb bm l) (ht : Below w.heap.size w w') : Nt w' nb bm l := h.kept (Turn.of_below (Z := fun _ => False) ht) id id
theorem Nt.lt {w : World} {nb bm : Nat} {l : List Deed} (h : Nt w nb bm l) : nb < w.heap.size ∧ bm < w.heap.size := ⟨h.blk.lt, h.map.elim fun _ h => h.1.lt⟩
theorem Nt.ne {w : World} {nb bm : Nat} {l : List Deed} (h : Nt w nb bm l) : nb ≠ bm := by
  rintro rfl
  obtain ⟨D, ⟨es, clock, hb, _⟩, _⟩ := h.map
  have := h.blk
  unfold Blk at this
  rw [hb] at this
  cases this
theorem zero_int (w : World) : (zeroValue 3).run Tryz.prog w = .ok (.int .i64 0) w := by kernel_rfl
set_option maxRecDepth 100000 in
/-- What a look-up in its map tells. -/
theorem Nt.look {w : World} {nb bm : Nat} {l : List Deed} (h : Nt w nb bm l) {d : Deed} (hd : d.Fits) :
    (Instr.lookup 62 (.map (some bm)) (.agg #[.int .i64 d.1, .string d.2]) true).run Tryz.prog w = .ok (.tuple #[.int .i64 (findS l d), .bool (decide (d ∈ l))]) w := by
  obtain ⟨D, h1, h2⟩ := h.map
  obtain ⟨v, ps, hrun, hv⟩ := h1.look_ok deed_law Tryz.underlying62 (zero_int w) (plainElem_int Tryz.underlying3 (by decide)) (keyOf_deed hd)
  obtain ⟨c, rfl, hc, _⟩ := plainElem_int_inv Tryz.underlying3 hv
  rw [h2.has d hd] at hrun
  have h3 := h2.at_ d hd
  simp only [Prod.mk.injEq] at hc
  rw [show D.atKey d.lit (.lit (.int .i64 0)) = i64D (findS l d) from h3] at hc
  have : findS l d = c := by injection hc.1 with h4; injection h4
  subst this
  exact hrun

set_option maxHeartbeats 400000 in
theorem new_any (w : World) : Calls Tryz.prog 10 #[] w fun e w' => ∃ nb bm, e = .returned (.pointer (some ⟨nb, 0, none⟩)) ∧ Nt w' nb bm [] ∧ w.heap.size ≤ nb ∧ w.heap.size ≤ bm ∧ Below w.heap.size w w' := by
  have hmm := @run_makeMap Tryz.prog
  go_enter Tryz.func10, Tryz.ntmps10
  go_wp2
  go_ret
  have h1 : (w.alloc (.map #[] 0)).heap.size = w.heap.size + 1 := by simp
  refine ⟨_, _, rfl, ⟨Blk.new1 w _ _ _, _, ?_, Book.empty⟩, Nat.le_succ _, Nat.le_refl _, ((Below.refl _ _).alloc (Nat.le_refl _) _).alloc (by rw [h1]; omega) _⟩
  exact (World.ownsMap_made w _ _ _).alloc _

set_option maxHeartbeats 400000 in
theorem find_any {w : World} {nb bm : Nat} {l : List Deed} (h : Nt w nb bm l) {p : Int} (hp : fit p) {A : Option Addr} {n c B : Nat} {zs : List Int} (hh : Has w B A (u8s zs)) (hn : zs.length = n) (hm : n ≤ maxLen) :
    Calls Tryz.prog 54 #[.pointer (some ⟨nb, 0, none⟩), .int .i64 p, .slice A n c] w fun e w' => e = .returned (.tuple #[.int .i64 (findS l (p, strOfNums zs)), .bool (decide ((p, strOfNums zs) ∈ l))]) ∧ ∃ m, w' = w.drewN m := by
  have hfit : Deed.Fits (p, strOfNums zs) := ⟨hp, by rw [str_size, hn]; exact hm⟩
  obtain ⟨s, hs⟩ : ∃ s, strOfNums zs = s := ⟨_, rfl⟩
  have hc := fun k => conv_has (w := w.drewN k) (c := c) (hh.drewN k) hn
  rw [hs] at hc hfit ⊢
  have hl := fun k => (h.drewN k).look hfit
  obtain ⟨x, hx⟩ : ∃ x, findS l (p, s) = x := ⟨_, rfl⟩
  obtain ⟨y, hy⟩ : ∃ y, decide ((p, s) ∈ l) = y := ⟨_, rfl⟩
  rw [hx, hy] at hl ⊢
  have hcell := h.blk.cell 0
  simp only [List.getElem?_toArray, List.getElem?_cons_zero] at hcell
  clear hx hy hs hh h hfit hp
  go_enter Tryz.func54, Tryz.ntmps54
  go_wp2
  go_quiet (fail)
  go_wp2
  go_ret2
  exact ⟨rfl, _, rfl⟩

theorem len_any {w : World} {nb bm : Nat} {l : List Deed} (h : Nt w nb bm l) :
    Calls Tryz.prog 58 #[.pointer (some ⟨nb, 0, none⟩)] w fun e w' => e = .returned (.int .i64 (l.length : Int)) ∧ w = w' := by
  have hcell := h.blk.cell 0
  simp only [List.getElem?_toArray, List.getElem?_cons_zero] at hcell
  obtain ⟨D, h1, h2⟩ := h.map
  have hlen := h1.len Tryz.underlying62 3
  rw [h2.size] at hlen
  clear h h1 h2
  go_enter Tryz.func58, Tryz.ntmps58
  go_wp2
  go_ret
  exact ⟨rfl, rfl⟩

theorem million_lt {n : Nat} (h : n ≤ 1000000) : n < maxLen := by unfold maxLen; omega
/-- What Check tells. -/
def checkS (l : List Deed) (d : Deed) (k : Int) : Bool := decide (d ∈ l) && decide (findS l d = k)
set_option maxHeartbeats 400000 in
theorem check_any {w : World} {nb bm : Nat} {l : List Deed} (h : Nt w nb bm l) {p k : Int} (hp : fit p) {A : Option Addr} {n c B : Nat} {zs : List Int} (hh : Has w B A (u8s zs)) (hn : zs.length = n) (hm : n ≤ maxLen) :
    Calls Tryz.prog 28 #[.pointer (some ⟨nb, 0, none⟩), .int .i64 p, .slice A n c, .int .i64 k] w fun e w' => e = .returned (.bool (checkS l (p, strOfNums zs) k)) ∧ ∃ m, w' = w.drewN m := by
  have HC := Lib.hid (find_any h hp hh hn hm (c := c))
  obtain ⟨s, hs⟩ : ∃ s, strOfNums zs = s := ⟨_, rfl⟩
  rw [hs] at HC ⊢
  have HX := Lib.hid (show checkS l (p, s) k = (decide ((p, s) ∈ l) && decide (findS l (p, s) = k)) from rfl)
  rw [HX.out]
  clear h hh hs hp
  by_cases hy : decide ((p, s) ∈ l) = true
  · rw [hy] at HC ⊢
    go_enter Tryz.func28, Tryz.ntmps28
    go_wp2_with fail
    refine HC.out.mono ?_
    rintro e w' ⟨rfl, m, rfl⟩
    go_wp2_with fail
    go_ret
    exact ⟨rfl, _, rfl⟩
  · rw [Bool.not_eq_true] at hy
    rw [hy] at HC ⊢
    go_enter Tryz.func28, Tryz.ntmps28
    go_wp2_with fail
    refine HC.out.mono ?_
    rintro e w' ⟨rfl, m, rfl⟩
    go_wp2_with fail
    go_ret
    exact ⟨rfl, _, rfl⟩

set_option maxHeartbeats 400000 in
theorem seal_any {w : World} {nb bm : Nat} {l : List Deed} (h : Nt w nb bm l) (hlen : l.length ≤ 1000000) {p : Int} (hp : fit p) {A : Option Addr} {n c B : Nat} {zs : List Int} (hh : Has w B A (u8s zs)) (hn : zs.length = n) (hm : n ≤ maxLen) :
    Calls Tryz.prog 35 #[.pointer (some ⟨nb, 0, none⟩), .int .i64 p, .slice A n c] w fun e w' => e = .returned (.int .i64 (sealS l (p, strOfNums zs))) ∧ Nt w' nb bm (sealed l (p, strOfNums zs)) ∧ Turn (fun k => k = bm) w w' := by
  have hfit : Deed.Fits (p, strOfNums zs) := ⟨hp, by rw [str_size, hn]; exact hm⟩
  have HC := Lib.hid (find_any h hp hh hn hm (c := c))
  have HH := Lib.hid hh
  obtain ⟨s, hs⟩ : ∃ s, strOfNums zs = s := ⟨_, rfl⟩
  rw [hs] at HC hfit ⊢
  by_cases hy : (p, s) ∈ l
  · rw [decide_eq_true hy, findS_in hy] at HC
    have HN := Lib.hid h
    have HF := Lib.hid (sealed_in hy)
    have HS := Lib.hid (show (idx l (p, s) : Int) + 1 = sealS l (p, s) from rfl)
    clear h hh hfit hy
    go_enter Tryz.func35, Tryz.ntmps35
    go_wp2_with fail
    refine HC.out.mono ?_
    rintro e w' ⟨rfl, m, rfl⟩
    go_wp2_with fail
    go_ret
    rw [HS.out, HF.out]
    exact ⟨rfl, HN.out.drewN m, (Turn.refl _ _).drewN m⟩
  · rw [decide_eq_false hy, findS_out hy] at HC
    have HY := Lib.hid hy
    have HFit := Lib.hid hfit
    have HS := Lib.hid (sealS_out hy)
    have HA := Lib.hid (sealed_out hy)
    have HN := Lib.hid h
    have HZ := Lib.hid hs
    clear h hh hfit hy hs
    go_enter Tryz.func35, Tryz.ntmps35
    go_wp2_with fail
    refine HC.out.mono ?_
    rintro e w' ⟨rfl, m, rfl⟩
    go_wp2_with fail
    refine (len_any (HN.out.drewN m)).mono ?_
    rintro e w' ⟨rfl, rfl⟩
    have hcell := fun k => (HN.out.drewN k).blk.cell 0
    simp only [List.getElem?_toArray, List.getElem?_cons_zero] at hcell
    have hconv := fun k => conv_has (w := w.drewN k) (c := c) (HH.out.drewN k) hn
    rw [HZ.out] at hconv
    obtain ⟨D, h1, h2⟩ := (HN.out.drewN (m + 1)).map
    have hput := h2.put (h1.tidy deed_law) HFit.out HY.out
    have HV : (Lit.int .i64 ((l.length : Int) + 1)).wf = true := WalkArith.wf_i64 (by omega)
    obtain ⟨w2, hrun, ho2, hg2⟩ := h1.update deed_law Tryz.underlying62 (million_lt hlen) (keyOf_deed HFit.out) (plainElem_int Tryz.underlying3 HV)
    have hrun : (Instr.mapUpdate 62 (.map (some bm)) (.agg #[.int .i64 p, .string s]) (.int .i64 ((l.length : Int) + 1))).run Tryz.prog (w.drewN (m + 1)) = .ok () w2 := hrun
    have ht0 : Turn (fun k => k = bm) w (w.drewN (m + 1)) := (Turn.refl _ w).drewN (m + 1)
    have ht1 : Turn (fun k => k = bm) w w2 := Turn.grown ht0 hg2 (fun k hk _ => (Option.some.inj hk).symm)
    have HT := Lib.hid ht1
    have HR := Lib.hid (show Nt w2 nb bm (l ++ [(p, s)]) from ⟨HT.out.blk HN.out.blk HN.out.ne, _, by rw [List.length_append]; exact ho2, hput⟩)
    clear hput ho2 hg2 h1 h2 ht0 ht1
    go_wp2_with fail
    go_region
    go_wp2_with fail
    go_ret
    rw [HS.out, HA.out]
    exact ⟨rfl, HR.out, HT.out⟩
end Go.Proofs.YtiffmjfbdidgkaaGreat
/- append of a slice to a row of the call's own, elements of some cells each. -/
namespace Go.Proofs.YtiffmjfbdidgkaaGreat
open Go.RowKit

/-- append of any slice (nil too) to a row of the call's own, elements of some cells each. -/
theorem run_apps {P : Program} {w : World} (t ty : TypeId) (base : Nat) (e : TypeId) (i : TypeInfo) (z : Value) (size bytes : Nat) (ht : P.underlying t = some (.slice e)) (hi : P.info? e = some i) (hz : i.zero = some z)
    (hsize : i.size = size) (hby : i.bytes = bytes) (hzs : z.cells.size = size) (hs0 : 0 < size)
    (v : Value) (n : Nat) (xs : List Value) (hown : w.ownsRow base e size v n xs)
    (B : Nat) (A : Option Addr) (m c : Nat) (news : List Value) (hl : news.length = m * size) (hh : Has w B A news) (hn : A = none → c = 0) (h1 : ∀ u ∈ news, u.oneCell' = true)
    (h63 : n + m ≤ maxLen) (hbytes : (n + m) * bytes ≤ 140737488355328) (hbase : base ≤ w.heap.size) :
    ∃ v' w', (Builtin.append_ #[t, t] ty #[v, .slice A m c]).run P w = .ok v' w' ∧ w'.ownsRow base e size v' (n + m) (xs ++ news) ∧ w.grownBy w' v.ownBlock ∧ (v'.ownBlock = v.ownBlock ∨ v'.ownBlock = some w.heap.size) := by
  cases A with
  | none =>
    have hm : news = [] := by
      cases news with
      | nil => rfl
      | cons u r =>
        obtain ⟨_, hA, _⟩ := hh 0 u rfl
        cases hA
    subst hm
    obtain rfl : m = 0 := by
      have : m * size = 0 := by simpa using hl.symm
      rcases Nat.mul_eq_zero.1 this with h | h <;> omega
    obtain rfl := hn rfl
    exact ⟨v, w, run_append_owned_none (P := P) (w := w) base t ty e i size ht hi v n xs hown, by simpa using hown, World.grownBy.refl w _, Or.inl rfl⟩
  | some ad =>
    obtain ⟨v', w', h2, h3, h4, _, h5⟩ := run_append_own_at (P := P) w base t ty e i z size bytes ht hi hz hsize hby hzs hs0 v n xs hown ad m c news hl (fun j u hu => by
      obtain ⟨_, hA, _, hc⟩ := hh j u hu
      cases hA
      exact hc) h1 h63 hbytes hbase
    exact ⟨v', w', h2, h3, h4, h5⟩
theorem step_apps {P : Program} {w : World} {ops : Array Oper} {o : Oper} {a : Act} {K : Act → World → Prop} {Q : Exit → Act → World → Prop} {E : Prop} (hgd : o.guard = none) (s x : Operand) (t : TypeId)
    (ho : o.op = .call { callee := .builtin .append, args := #[s, x], argTypes := #[t, t] })
    (base : Nat) (e : TypeId) (i : TypeInfo) (z : Value) (size bytes : Nat) (ht : P.underlying t = some (.slice e)) (hi : P.info? e = some i) (hz : i.zero = some z)
    (hsize : i.size = size) (hby : i.bytes = bytes) (hzs : z.cells.size = size) (hs0 : 0 < size)
    (v : Value) (n : Nat) (xs : List Value) (hs : a.eval s = v) (hown : w.ownsRow base e size v n xs)
    (B : Nat) (A : Option Addr) (m c : Nat) (news : List Value) (hx : a.eval x = .slice A m c) (hl : news.length = m * size) (hh : Has w B A news) (hn : A = none → c = 0) (h1 : ∀ u ∈ news, u.oneCell' = true)
    (h63 : n + m ≤ maxLen) (hbytes : (n + m) * bytes ≤ 140737488355328) (hbase : base ≤ w.heap.size)
    (h : ∀ v' w', w'.ownsRow base e size v' (n + m) (xs ++ news) → w.grownBy w' v.ownBlock → (v'.ownBlock = v.ownBlock ∨ v'.ownBlock = some w.heap.size) → K (a.put o.dst v') w') :
    if Region.wanted o (yielded ops a.tmps) = true then Oper.wp P o a w K Q else E := by
  have hw : Region.wanted o (yielded ops a.tmps) = true := by simp [Region.wanted, hgd]
  rw [if_pos hw]
  obtain ⟨v', w', hr, h2, h3, h4⟩ := run_apps (P := P) (w := w) t o.type base e i z size bytes ht hi hz hsize hby hzs hs0 v n xs hown B A m c news hl hh hn h1 h63 hbytes hbase
  unfold Oper.wp execOp
  simp only [ho, resolve, invoke, builtin, Sem.run_bind, Sem.run_pure, Result.andThen_ok, List.map_toArray, List.map_cons, List.map_nil, hs, hx, hr]
  exact h v' w' h2 h3 h4

theorem wpList_apps {P : Program} {w : World} {ops : Array Oper} {rest : List Oper} {o : Oper} {a : Act} {Q : Exit → Act → World → Prop} (hgd : o.guard = none) (s x : Operand) (t : TypeId)
    (ho : o.op = .call { callee := .builtin .append, args := #[s, x], argTypes := #[t, t] })
    (base : Nat) (e : TypeId) (i : TypeInfo) (z : Value) (size bytes : Nat) (ht : P.underlying t = some (.slice e)) (hi : P.info? e = some i) (hz : i.zero = some z)
    (hsize : i.size = size) (hby : i.bytes = bytes) (hzs : z.cells.size = size) (hs0 : 0 < size)
    (v : Value) (n : Nat) (xs : List Value) (hs : a.eval s = v) (hown : w.ownsRow base e size v n xs)
    (B : Nat) (A : Option Addr) (m c : Nat) (news : List Value) (hx : a.eval x = .slice A m c) (hl : news.length = m * size) (hh : Has w B A news) (hn : A = none → c = 0) (h1 : ∀ u ∈ news, u.oneCell' = true)
    (h63 : n + m ≤ maxLen) (hbytes : (n + m) * bytes ≤ 140737488355328) (hbase : base ≤ w.heap.size)
    (h : ∀ v' w', w'.ownsRow base e size v' (n + m) (xs ++ news) → w.grownBy w' v.ownBlock → (v'.ownBlock = v.ownBlock ∨ v'.ownBlock = some w.heap.size) → wpList P ops Q rest (a.put o.dst v') w') : wpList P ops Q (o :: rest) a w := by
  refine wpList_plain hgd fun K hK => ?_
  obtain ⟨v', w', hr, h2, h3, h4⟩ := run_apps (P := P) (w := w) t o.type base e i z size bytes ht hi hz hsize hby hzs hs0 v n xs hown B A m c news hl hh hn h1 h63 hbytes hbase
  unfold Oper.wp
  simp [execOp, ho, resolve, invoke, builtin, hs, hx, hr, Result.andThen]
  exact hK _ _ (h v' w' h2 h3 h4)
end Go.Proofs.YtiffmjfbdidgkaaGreat
/- The contracts of the document's own notary: Find, Check, Seal, Copy. -/
namespace Go.Proofs.YtiffmjfbdidgkaaGreat
open Go.RowKit Go.Maps

def parties (l : List Deed) : List Value := l.map fun d => Value.int .i64 d.1
def texts (l : List Deed) : List Value := l.map fun d => Value.string d.2
theorem idx_le {d : Deed} {k : Nat} : ∀ {l : List Deed}, l[k]? = some d → idx l d ≤ k := by
  induction k with
  | zero =>
    intro l h
    cases l with
    | nil => simp at h
    | cons x l =>
      obtain rfl : x = d := by simpa using h
      simp [idx]
  | succ k ih =>
    intro l h
    cases l with
    | nil => simp at h
    | cons x l =>
      have := ih (l := l) (by simpa using h)
      unfold idx
      split <;> omega
theorem idx_past {d x : Deed} {l : List Deed} {k : Nat} (h : k ≤ idx l d) (hx : l[k]? = some x) (hne : x ≠ d) : k + 1 ≤ idx l d := by
  rcases Nat.lt_or_ge k (idx l d) with h1 | h1
  · exact h1
  · have he : idx l d = k := by omega
    have hk : k < l.length := (List.getElem?_eq_some_iff.1 hx).1
    have hm : d ∈ l := Classical.byContradiction fun hn => by rw [idx_not hn] at he; omega
    have := idx_get hm
    rw [he, hx] at this
    exact absurd (Option.some.inj this) hne
/-- The document's notary in block rb tells the list; it, and its rows, lie in the zone R. -/
structure Rf (R : Nat → Prop) (w : World) (rb : Nat) (l : List Deed) : Prop where
  zone : R rb
  ex : ∃ v1 v2, Blk w rb 46 #[v1, v2] ∧ w.ownsRow 0 3 1 v1 l.length (parties l) ∧ w.ownsRow 0 9 1 v2 l.length (texts l) ∧ (∀ g, v1.ownBlock = some g → R g) ∧ ∀ g, v2.ownBlock = some g → R g
section
variable {R R' : Nat → Prop} {w w' : World} {rb : Nat} {l : List Deed}
theorem Rf.lt (h : Rf R w rb l) : rb < w.heap.size := by
  obtain ⟨_, _, h1, _⟩ := h.ex
  exact h1.lt
theorem Rf.mono (h : Rf R w rb l) (hz : ∀ k, k < w.heap.size → R k → R' k) : Rf R' w rb l := by
  obtain ⟨v1, v2, h1, h2, h3, h4, h5⟩ := h.ex
  exact ⟨hz _ h.lt h.zone, v1, v2, h1, h2, h3, fun g hg => hz g (h2.lt g hg).2 (h4 g hg), fun g hg => hz g (h3.lt g hg).2 (h5 g hg)⟩
theorem Rf.kept {Z : Nat → Prop} (h : Rf R w rb l) (ht : Turn Z w w') (hz : ∀ k, k < w.heap.size → R k → ¬ Z k) : Rf R w' rb l := by
  obtain ⟨v1, v2, h1, h2, h3, h4, h5⟩ := h.ex
  exact ⟨h.zone, v1, v2, ht.blk h1 (hz _ h.lt h.zone), ht.own h2 (fun g hg => hz g (h2.lt g hg).2 (h4 g hg)), ht.own h3 (fun g hg => hz g (h3.lt g hg).2 (h5 g hg)), h4, h5⟩
theorem Rf.below (h : Rf R w rb l) (hb : Below w.heap.size w w') : Rf R w' rb l := h.kept (Turn.of_below (Z := fun _ => False) hb) (fun _ _ _ => id)
theorem Rf.drewN (h : Rf R w rb l) (n : Nat) : Rf R (w.drewN n) rb l := h.kept ((Turn.refl (fun _ => False) w).drewN n) (fun _ _ _ => id)
end

/-- append of any slice of one-cell elements (nil too) to a row of the call's own, and where the new one lies. -/
theorem run_app {P : Program} {w : World} (t ty : TypeId) (base : Nat) (e : TypeId) (i : TypeInfo) (z : Value) (bytes : Nat) (ht : P.underlying t = some (.slice e)) (hi : P.info? e = some i) (hz : i.zero = some z)
    (hsize : i.size = 1) (hby : i.bytes = bytes) (hzs : z.cells.size = 1)
    (v : Value) (n : Nat) (xs : List Value) (hown : w.ownsRow base e 1 v n xs)
    (B : Nat) (A : Option Addr) (m c : Nat) (news : List Value) (hl : news.length = m) (hh : Has w B A news) (hn : A = none → c = 0) (h1 : ∀ u ∈ news, u.oneCell' = true)
    (h63 : n + m ≤ maxLen) (hbytes : (n + m) * bytes ≤ 140737488355328) (hbase : base ≤ w.heap.size) :
    ∃ v' w', (Builtin.append_ #[t, t] ty #[v, .slice A m c]).run P w = .ok v' w' ∧ w'.ownsRow base e 1 v' (n + m) (xs ++ news) ∧ w.grownBy w' v.ownBlock ∧ (v'.ownBlock = v.ownBlock ∨ v'.ownBlock = some w.heap.size) := by
  cases A with
  | none =>
    have hm : news = [] := by
      cases news with
      | nil => rfl
      | cons u r =>
        obtain ⟨_, hA, _⟩ := hh 0 u rfl
        cases hA
    subst hm
    obtain rfl : m = 0 := by simpa using hl.symm
    obtain rfl := hn rfl
    exact ⟨v, w, run_append_owned_none (P := P) (w := w) base t ty e i 1 ht hi v n xs hown, by simpa using hown, World.grownBy.refl w _, Or.inl rfl⟩
  | some ad =>
    obtain ⟨v', w', h2, h3, h4, _, h5⟩ := run_append_own_at (P := P) w base t ty e i z 1 bytes ht hi hz hsize hby hzs (by decide) v n xs hown ad m c news (by omega) (fun j u hu => by
      obtain ⟨_, hA, _, hc⟩ := hh j u hu
      cases hA
      exact hc) h1 h63 hbytes hbase
    exact ⟨v', w', h2, h3, h4, h5⟩
theorem step_app {P : Program} {w : World} {ops : Array Oper} {o : Oper} {a : Act} {K : Act → World → Prop} {Q : Exit → Act → World → Prop} {E : Prop} (hgd : o.guard = none) (s x : Operand) (t : TypeId)
    (ho : o.op = .call { callee := .builtin .append, args := #[s, x], argTypes := #[t, t] })
    (base : Nat) (e : TypeId) (i : TypeInfo) (z : Value) (bytes : Nat) (ht : P.underlying t = some (.slice e)) (hi : P.info? e = some i) (hz : i.zero = some z)
    (hsize : i.size = 1) (hby : i.bytes = bytes) (hzs : z.cells.size = 1)
    (v : Value) (n : Nat) (xs : List Value) (hs : a.eval s = v) (hown : w.ownsRow base e 1 v n xs)
    (B : Nat) (A : Option Addr) (m c : Nat) (news : List Value) (hx : a.eval x = .slice A m c) (hl : news.length = m) (hh : Has w B A news) (hn : A = none → c = 0) (h1 : ∀ u ∈ news, u.oneCell' = true)
    (h63 : n + m ≤ maxLen) (hbytes : (n + m) * bytes ≤ 140737488355328) (hbase : base ≤ w.heap.size)
    (h : ∀ v' w', w'.ownsRow base e 1 v' (n + m) (xs ++ news) → w.grownBy w' v.ownBlock → (v'.ownBlock = v.ownBlock ∨ v'.ownBlock = some w.heap.size) → K (a.put o.dst v') w') :
    if Region.wanted o (yielded ops a.tmps) = true then Oper.wp P o a w K Q else E := by
  have hw : Region.wanted o (yielded ops a.tmps) = true := by simp [Region.wanted, hgd]
  rw [if_pos hw]
  obtain ⟨v', w', hr, h2, h3, h4⟩ := run_app (P := P) (w := w) t o.type base e i z bytes ht hi hz hsize hby hzs v n xs hown B A m c news hl hh hn h1 h63 hbytes hbase
  unfold Oper.wp execOp
  simp only [ho, resolve, invoke, builtin, Sem.run_bind, Sem.run_pure, Result.andThen_ok, List.map_toArray, List.map_cons, List.map_nil, hs, hx, hr]
  exact h v' w' h2 h3 h4
theorem wpList_app2 {P : Program} {w : World} {ops : Array Oper} {rest : List Oper} {o : Oper} {a : Act} {Q : Exit → Act → World → Prop} (hgd : o.guard = none) (s x : Operand) (t : TypeId)
    (ho : o.op = .call { callee := .builtin .append, args := #[s, x], argTypes := #[t, t] })
    (base : Nat) (e : TypeId) (i : TypeInfo) (z : Value) (bytes : Nat) (ht : P.underlying t = some (.slice e)) (hi : P.info? e = some i) (hz : i.zero = some z)
    (hsize : i.size = 1) (hby : i.bytes = bytes) (hzs : z.cells.size = 1)
    (v : Value) (n : Nat) (xs : List Value) (hs : a.eval s = v) (hown : w.ownsRow base e 1 v n xs)
    (B : Nat) (A : Option Addr) (m c : Nat) (news : List Value) (hx : a.eval x = .slice A m c) (hl : news.length = m) (hh : Has w B A news) (hn : A = none → c = 0) (h1 : ∀ u ∈ news, u.oneCell' = true)
    (h63 : n + m ≤ maxLen) (hbytes : (n + m) * bytes ≤ 140737488355328) (hbase : base ≤ w.heap.size)
    (h : ∀ v' w', w'.ownsRow base e 1 v' (n + m) (xs ++ news) → w.grownBy w' v.ownBlock → (v'.ownBlock = v.ownBlock ∨ v'.ownBlock = some w.heap.size) → wpList P ops Q rest (a.put o.dst v') w') : wpList P ops Q (o :: rest) a w := by
  refine wpList_plain hgd fun K hK => ?_
  obtain ⟨v', w', hr, h2, h3, h4⟩ := run_app (P := P) (w := w) t o.type base e i z bytes ht hi hz hsize hby hzs v n xs hown B A m c news hl hh hn h1 h63 hbytes hbase
  unfold Oper.wp
  simp [execOp, ho, resolve, invoke, builtin, hs, hx, hr, Result.andThen]
  exact hK _ _ (h v' w' h2 h3 h4)
theorem has_own0 {w : World} {base n c : Nat} {e : TypeId} {A : Option Addr} {xs : List Value} (h : w.ownsRow base e 1 (.slice A n c) n xs) : Has w w.heap.size A xs := Has.own h
set_option maxHeartbeats 1000000 in
theorem rfind_any {R : Nat → Prop} {w : World} {rb : Nat} {l : List Deed} (h : Rf R w rb l) (hlen : l.length ≤ 1000000) {p : Int} {A : Option Addr} {n c B : Nat} {zs : List Int} (hh : Has w B A (u8s zs)) (hn : zs.length = n) :
    Calls Tryz.prog 68 #[.pointer (some ⟨rb, 0, none⟩), .int .i64 p, .slice A n c] w fun e w' => e = .returned (.tuple #[.int .i64 (findS l (p, strOfNums zs)), .bool (decide ((p, strOfNums zs) ∈ l))]) ∧ w = w' := by
  obtain ⟨v1, v2, hb, ho1, ho2, _, _⟩ := h.ex
  obtain ⟨A1, c1, rfl, _, _⟩ := own_slice ho1
  obtain ⟨A2, c2, rfl, _, _⟩ := own_slice ho2
  have hc := conv_has (c := c) hh hn
  obtain ⟨s, hs⟩ : ∃ s, strOfNums zs = s := ⟨_, rfl⟩
  rw [hs] at hc ⊢
  have hcell0 := hb.cell 0
  have hcell1 := hb.cell 1
  simp only [List.getElem?_toArray, List.getElem?_cons_zero, List.getElem?_cons_succ] at hcell0 hcell1
  have H1 := Lib.hid (has_own0 ho1)
  have H2 := Lib.hid (has_own0 ho2)
  clear h hb ho1 ho2 hs hh
  go_enter Tryz.func68, Tryz.ntmps68
  go_wp2
  go_loop [9] (fun x => ∃ k : Nat, x = .int .i64 k ∧ k ≤ l.length ∧ Hid (k ≤ idx l (p, s))) (fun x => l.length - (intOf x).toNat)
  case atStart => exact ⟨0, rfl, Nat.zero_le _, Nat.zero_le _⟩
  case round =>
    obtain ⟨k, rfl, hk, HK⟩ := hrel
    by_cases hlt : k < l.length
    · obtain ⟨a1, rfl, hba, ha⟩ := H1.out k (.int .i64 l[k].1) (by simp [parties, List.getElem?_eq_getElem hlt])
      obtain ⟨a2, rfl, hbb, hb⟩ := H2.out k (.string l[k].2) (by simp [texts, List.getElem?_eq_getElem hlt])
      obtain ⟨x, hx⟩ : ∃ x, l[k] = x := ⟨_, rfl⟩
      rw [hx] at ha hb
      have HX := Lib.hid (show l[k]? = some x by rw [List.getElem?_eq_getElem hlt, hx])
      clear hx hba hbb
      by_cases hp : x.1 = p
      · by_cases ht : x.2 = s
        · have HE := Lib.hid (show l[k]? = some (p, s) by rw [HX.out, ← hp, ← ht])
          have HD := Lib.hid (show findS l (p, s) = (k : Int) + 1 ∧ decide ((p, s) ∈ l) = true by
            have hm := List.mem_of_getElem? HE.out
            have h1 := idx_le HE.out
            have h2 := HK.out
            rw [findS_in hm, decide_eq_true hm, show idx l (p, s) = k by omega]
            exact ⟨rfl, rfl⟩)
          have hq : (x.2.toList == s.toList) = true := by rw [str_eq, ht]; simp
          rw [hp] at ha
          clear hp ht
          go_wp2
          go_ret2
          rw [HD.out.1, HD.out.2]
          exact ⟨rfl, rfl⟩
        · have HD := Lib.hid (idx_past HK.out HX.out (fun e => ht (by rw [e])))
          have hq : (x.2.toList == s.toList) = false := by rw [str_eq, decide_eq_false ht]
          rw [hp] at ha
          clear hp ht
          go_wp2
          go_round
          case rel => exact ⟨k + 1, by go_num, by omega, HD.out⟩
          case measure => simp [intOf]; omega
      · have HD := Lib.hid (idx_past HK.out HX.out (fun e => hp (by rw [e])))
        go_wp2
        go_round
        case rel => exact ⟨k + 1, by go_num, by omega, HD.out⟩
        case measure => simp [intOf]; omega
    · have HD := Lib.hid (show findS l (p, s) = 0 ∧ decide ((p, s) ∈ l) = false by
        have hm : (p, s) ∉ l := fun hm => by have := idx_lt hm; have := HK.out; omega
        exact ⟨findS_out hm, decide_eq_false hm⟩)
      go_wp2
      go_ret2
      rw [HD.out.1, HD.out.2]
      exact ⟨rfl, rfl⟩

theorem checkS_eq {l : List Deed} (hn : l.Nodup) {d : Deed} {m : Nat} : checkS l d ((m : Int) + 1) = decide (l[m]? = some d) := by
  unfold checkS
  by_cases h : l[m]? = some d
  · have hm := List.mem_of_getElem? h
    rw [decide_eq_true h, decide_eq_true hm, findS_in hm, idx_at hn h]; simp
  · rw [decide_eq_false h]
    by_cases hm : d ∈ l
    · rw [findS_in hm]
      have : ¬ ((idx l d : Int) + 1 = (m : Int) + 1) := fun e => h (by rw [← idx_get hm]; congr 1; omega)
      simp [this]
    · simp [hm]
end Go.Proofs.YtiffmjfbdidgkaaGreat
/- The contracts of the document's own notary: Seal, Copy. -/
namespace Go.Proofs.YtiffmjfbdidgkaaGreat
open Go.RowKit Go.Maps

theorem info_int : (Tryz.prog.info? 3).map (fun i => (i.zero, i.size, i.bytes)) = some (some (.int .i64 0), 1, 8) := by kernel_rfl
theorem info_str : (Tryz.prog.info? 9).map (fun i => (i.zero, i.size, i.bytes)) = some (some (.string ByteArray.empty), 1, 16) := by kernel_rfl
theorem parties_app (l : List Deed) (d : Deed) : parties (l ++ [d]) = parties l ++ [.int .i64 d.1] := by simp [parties]
theorem texts_app (l : List Deed) (d : Deed) : texts (l ++ [d]) = texts l ++ [.string d.2] := by simp [texts]
theorem most1 {n : Nat} (h : n ≤ 1000000) : n + 1 ≤ maxLen := by unfold maxLen; omega
theorem most2 {n b : Nat} (h : n ≤ 1000000) (hb : b ≤ 100) : (n + 1) * b ≤ 140737488355328 :=
  Nat.le_trans (Nat.mul_le_mul (show n + 1 ≤ 1000001 by omega) hb) (by omega)
set_option maxHeartbeats 1000000 in
theorem rseal_at {R : Nat → Prop} {w : World} {rb : Nat} {l : List Deed} (h : Rf R w rb l) (hlen : l.length ≤ 1000000) {p : Int} {A : Option Addr} {n c B : Nat} {zs : List Int} (hh : Has w B A (u8s zs)) (hn : zs.length = n) (hA : ∀ ad, A = some ad → u8s zs ≠ [] → ¬ R ad.block) :
    Calls Tryz.prog 45 #[.pointer (some ⟨rb, 0, none⟩), .int .i64 p, .slice A n c] w fun e w' => e = .returned (.int .i64 (sealS l (p, strOfNums zs))) ∧ Rf (fun k => R k ∨ w.heap.size ≤ k) w' rb (sealed l (p, strOfNums zs)) ∧ Turn R w w' := by
  have HC := Lib.hid (rfind_any h hlen hh hn (c := c) (p := p))
  obtain ⟨s, hs⟩ : ∃ s, strOfNums zs = s := ⟨_, rfl⟩
  rw [hs] at HC ⊢
  by_cases hy : (p, s) ∈ l
  · rw [decide_eq_true hy, findS_in hy] at HC
    have HN := Lib.hid h
    have HF := Lib.hid (sealed_in hy)
    have HS := Lib.hid (show (idx l (p, s) : Int) + 1 = sealS l (p, s) from rfl)
    clear h hh hy hs
    go_enter Tryz.func45, Tryz.ntmps45
    go_wp2_with fail
    refine HC.out.mono ?_
    rintro e w' ⟨rfl, rfl⟩
    go_wp2_with fail
    go_ret
    rw [HS.out, HF.out]
    exact ⟨rfl, HN.out.mono (fun k _ hk => Or.inl hk), Turn.refl _ _⟩
  · rw [decide_eq_false hy, findS_out hy] at HC
    have HS := Lib.hid (sealS_out hy)
    have HF := Lib.hid (sealed_out hy)
    obtain ⟨v1, v2, hb, ho1, ho2, hz1, hz2⟩ := h.ex
    have hrb := h.zone
    obtain ⟨i0, hi, hx0, hx1, hx2⟩ := info_parts info_int
    obtain ⟨i1, hj, hy0, hy1, hy2⟩ := info_parts info_str
    have HA := Lib.hid hA
    have HZ1 := Lib.hid hz1
    have HZ2 := Lib.hid hz2
    have HH := Lib.hid hh
    have HST := Lib.hid hs
    have hcell0 := hb.cell 0
    simp only [List.getElem?_toArray, List.getElem?_cons_zero] at hcell0
    have HB := Lib.hid hb
    have HO1 := Lib.hid ho1
    have HO2 := Lib.hid ho2
    have HR := Lib.hid hrb
    have hM1 := most1 hlen
    have HM2 := Lib.hid (fun b => most2 (b := b) hlen)
    clear h hy hs hh hA hz1 hz2 hb ho1 ho2 hrb
    go_enter Tryz.func45, Tryz.ntmps45
    go_wp2_with fail
    refine HC.out.mono ?_
    rintro e w' ⟨rfl, rfl⟩
    go_wp2_with (at_builtin; refine wpList_app2 rfl (.tmp 22) (.tmp 24) 43 rfl 0 3 i0 (.int .i64 0) 8 Tryz.underlying43 hi hx0 hx1 hx2 rfl _ _ _ rfl (HO1.out.alloc _) _ (some ⟨w.heap.size, 0, none⟩) 1 1 [.int .i64 p] rfl rfl (Has.fresh w #[.int .i64 p] 3) (fun h => by cases h) (by simp; rfl) hM1 (HM2.out 8 (by omega)) (Nat.zero_le _) ?_)
    intro va w2 hoa hga hla
    obtain ⟨Aa, ca, rfl, _, _⟩ := own_slice hoa
    have ht1 : Turn R w (w.alloc (.cells #[.int .i64 p] 3)) := (Turn.refl R w).alloc _
    have ht2 : Turn R w w2 := ht1.grown hga (fun k hk _ => HZ1.out k hk)
    have hb2 : Blk w2 rb 46 #[v1, v2] := (HB.out.alloc _).grown hga (fun e => own_blk_ne HO1.out HB.out (by decide) e.symm)
    have ho2 : w2.ownsRow 0 9 1 v2 l.length (texts l) := (HO2.out.alloc _).kept hga (own_apart (HO2.out.alloc (.cells #[.int .i64 p] 3)) (HO1.out.alloc _) (by decide))
    have hc2 := hb2.cell 0
    simp only [List.getElem?_toArray, List.getElem?_cons_zero] at hc2
    have hf2 := hb2.frozen 0
    have HLA := Lib.hid hla
    have HHA := Lib.hid (show Has w2 B A (u8s zs) from has_apart HH.out ht2 HA.out)
    have HT2 := Lib.hid ht2
    have HB2 := Lib.hid hb2
    have HO2b := Lib.hid ho2
    have HOA := Lib.hid hoa
    clear hla ht1 ht2 hga ho2 hoa hb2
    go_wp2_with fail
    obtain ⟨w3, hw3⟩ : ∃ w3, w3 = w2.setCell ⟨rb, 0, none⟩ (.slice Aa (l.length + 1) ca) := ⟨_, rfl⟩
    have hb3 : Blk w3 rb 46 #[.slice Aa (l.length + 1) ca, v2] := by rw [hw3]; exact HB2.out.set_ 0 _
    have ho2 : w3.ownsRow 0 9 1 v2 l.length (texts l) := by rw [hw3]; exact own_far HO2b.out (own_blk_ne HO2b.out HB2.out (by decide)) _
    have hoa : w3.ownsRow 0 3 1 (.slice Aa (l.length + 1) ca) (l.length + 1) (parties l ++ [.int .i64 p]) := by rw [hw3]; exact own_far HOA.out (own_blk_ne HOA.out HB2.out (by decide)) _
    have ht3 : Turn R w w3 := by rw [hw3]; exact HT2.out.set_ _ _ HR.out
    have hh3 : Has w3 B A (u8s zs) := by
      have h1 : Turn R w2 (w2.setCell ⟨rb, 0, none⟩ (.slice Aa (l.length + 1) ca)) := (Turn.refl R w2).set_ _ _ HR.out
      rw [hw3]; exact has_apart HHA.out h1 HA.out
    rw [← hw3]
    have hconv := conv_has (w := w3.drew) (c := c) hh3.drew hn
    rw [HST.out] at hconv
    have hc3 := hb3.drew.cell 1
    simp only [List.getElem?_toArray, List.getElem?_cons_zero, List.getElem?_cons_succ] at hc3
    have HB3 := Lib.hid hb3
    have HO2c := Lib.hid ho2
    have HOAc := Lib.hid hoa
    have HT3 := Lib.hid ht3
    have hown3 : (w3.drew.alloc (.cells #[.string s] 9)).ownsRow 0 9 1 v2 l.length (texts l) := HO2c.out.drew.alloc _
    have hnew3 : Has (w3.drew.alloc (.cells #[.string s] 9)) (w3.heap.size + 1) (some ⟨w3.heap.size, 0, none⟩) [.string s] := Has.fresh w3.drew #[.string s] 9
    have hone3 : ∀ u ∈ [Value.string s], u.oneCell' = true := by simp; rfl
    have hblk3 : Blk (w3.drew.alloc (.cells #[.string s] 9)) rb 46 #[.slice Aa (l.length + 1) ca, v2] := HB3.out.drew.alloc _
    have HNE := Lib.hid (own_blk_ne hown3 hblk3 (by decide))
    have hby3 := HM2.out 16 (by omega)
    clear hc2 hf2 HT2 HB2 HO2b HOA HHA hcell0 hb3 ho2 hoa ht3 hh3 hw3
    have hc3b := (HB3.out.alloc (.cells #[.string s] 9)).cell 1
    simp only [List.getElem?_toArray, List.getElem?_cons_zero, List.getElem?_cons_succ] at hc3b
    go_region_law (refine step_app rfl (.tmp 32) (.tmp 35) 44 rfl 0 9 i1 (.string ByteArray.empty) 16 Tryz.underlying44 hj hy0 hy1 hy2 rfl v2 l.length (texts l) rfl hown3 _ (some ⟨w3.heap.size, 0, none⟩) 1 1 [.string s] rfl rfl hnew3 (fun h => nomatch h) hone3 hM1 hby3 (Nat.zero_le _) ?_; intro vb w5 hob hgb hlb; obtain ⟨Ab, cb, rfl, _, _⟩ := own_slice hob; have hb5 := hblk3.grown hgb (fun e => HNE.out e.symm); have hc5 := hb5.cell 1; have hc50 := hb5.cell 0; have hf5 := hb5.frozen 1; simp only [List.getElem?_toArray, List.getElem?_cons_zero, List.getElem?_cons_succ] at hc5 hc50)
    all_goals
      have hoa5 : w5.ownsRow 0 3 1 (.slice Aa (l.length + 1) ca) (l.length + 1) (parties l ++ [.int .i64 p]) := (HOAc.out.drew.alloc (.cells #[.string s] 9)).kept hgb (own_apart (HOAc.out.drew.alloc (.cells #[.string s] 9)) hown3 (by decide))
      have hoa6 : (w5.setCell ⟨rb, 1, none⟩ (.slice Ab (l.length + 1) cb)).ownsRow 0 3 1 (.slice Aa (l.length + 1) ca) (l.length + 1) (parties l ++ [.int .i64 p]) := own_far hoa5 (own_blk_ne hoa5 hb5 (by decide)) _
      have hob6 : (w5.setCell ⟨rb, 1, none⟩ (.slice Ab (l.length + 1) cb)).ownsRow 0 9 1 (.slice Ab (l.length + 1) cb) (l.length + 1) (texts l ++ [.string s]) := own_far hob (own_blk_ne hob hb5 (by decide)) _
      have ht4 : Turn R w (w3.drew.alloc (.cells #[.string s] 9)) := (HT3.out.drewN 1).alloc _
      have ht5 : Turn R w w5 := ht4.grown hgb (fun k hk _ => HZ2.out k hk)
      have ht6 : Turn R w (w5.setCell ⟨rb, 1, none⟩ (.slice Ab (l.length + 1) cb)) := ht5.set_ _ _ HR.out
      have hsz := HT3.out.size
      have HFin := Lib.hid (show Rf (fun k => R k ∨ w.heap.size ≤ k) (w5.setCell ⟨rb, 1, none⟩ (.slice Ab (l.length + 1) cb)) rb (l ++ [(p, s)]) from
        ⟨Or.inl HR.out, _, _, hb5.set_ 1 _, by rw [parties_app, List.length_append]; exact hoa6, by rw [texts_app, List.length_append]; exact hob6,
          fun g hg => (HLA.out.elim (fun h => Or.inl (HZ1.out g (h ▸ hg))) (fun h => Or.inr (by have := Option.some.inj (h.symm.trans hg); omega))),
          fun g hg => (hlb.elim (fun h => Or.inl (HZ2.out g (h ▸ hg))) (fun h => Or.inr (by
            have := Option.some.inj (h.symm.trans hg)
            have hz : w3.heap.size + 1 = g := by simpa using this
            omega)))⟩)
      have HT6 := Lib.hid ht6
      clear hoa5 hoa6 hob6 ht4 ht5 ht6 hsz hgb hob hlb
      go_wp2_with fail
      go_ret
      rw [HS.out, HF.out]
      exact ⟨rfl, HFin.out, HT6.out⟩

end Go.Proofs.YtiffmjfbdidgkaaGreat
/- The contracts of keep.Same at bytes. -/
namespace Go.Proofs.YtiffmjfbdidgkaaGreat
open Go.RowKit

theorem own_caps {w : World} {base n c : Nat} {e : TypeId} {size : Nat} {A : Option Addr} {xs : List Value} (h : w.ownsRow base e size (.slice A n c) n xs) : n ≤ c ∧ c ≤ maxLen := by
  obtain ⟨A', c', hv, h1, h2⟩ := own_slice h
  injection hv with _ _ hc
  omega
end Go.Proofs.YtiffmjfbdidgkaaGreat
/- The contract of the document's has: is a sign one of a text's? -/
namespace Go.Proofs.YtiffmjfbdidgkaaGreat
open Go.RowKit

end Go.Proofs.YtiffmjfbdidgkaaGreat
/- Plain regions that hold many guards: one operation at a time, behind a word of its own. -/
namespace Go.Proofs.YtiffmjfbdidgkaaGreat

end Go.Proofs.YtiffmjfbdidgkaaGreat
/- The contract of the document's blank at a message that has nothing but its kind, named 'v'. -/
namespace Go.Proofs.YtiffmjfbdidgkaaGreat
open Go.RowKit

end Go.Proofs.YtiffmjfbdidgkaaGreat
/- Stores into a row of the call's own. -/
namespace Go.Proofs.YtiffmjfbdidgkaaGreat
open Go.RowKit

theorem blk_many : ∀ (vs : List Value) {w : World} {g t o : Nat} {cs : Array Value}, Blk w g t cs → Blk (w.setCells g o vs) g t (Sort.setMany cs o vs)
  | [], _, _, _, _, _, h => h
  | v :: vs, _, _, _, o, _, h => blk_many vs (h.set_ o v)
theorem set_list {F : Array Value} {s : Nat} {v : Value} (h : s < F.size) : (F.setIfInBounds s v).toList = (F.toList.take s ++ [v]) ++ F.toList.drop (s + 1) := by
  rw [Array.toList_setIfInBounds, List.set_eq_take_append_cons_drop, if_pos (by simpa using h)]
  simp
theorem many_list : ∀ (vs : List Value) (s : Nat) (F : Array Value), s + vs.length ≤ F.size → (Sort.setMany F s vs).toList = F.toList.take s ++ vs ++ F.toList.drop (s + vs.length)
  | [], s, F, _ => by simp [Sort.setMany]
  | v :: vs, s, F, h => by
    have hs : s < F.size := by simp at h; omega
    have hl : (F.toList.take s ++ [v]).length = s + 1 := by simp; omega
    rw [Sort.setMany, many_list vs (s + 1) _ (by simp at h ⊢; omega), set_list hs, List.take_left' hl, ← List.drop_drop, List.drop_left' hl, List.drop_drop, show s + 1 + vs.length = s + (v :: vs).length by simp; omega]
    simp
theorem own_cells {w : World} {b n c g o s : Nat} {e : TypeId} {xs vs : List Value} (h : w.ownsRow b e s (.slice (some ⟨g, 0, none⟩) n c) n xs) (ho : o + vs.length ≤ n * s) :
    (w.setCells g o vs).ownsRow b e s (.slice (some ⟨g, 0, none⟩) n c) n (xs.take o ++ vs ++ xs.drop (o + vs.length)) := by
  obtain ⟨h1, h2⟩ := h
  rcases h2 with ⟨h2, _⟩ | ⟨g', cap, cur, hv, hg, hb, hc, hm, hz, ht⟩
  · injection h2 with a
    cases a
  · injection hv with a1 a2 a3
    injection a1 with a1
    injection a1 with a1
    subst a1 a3
    have hcs : n * s ≤ cur.size := by rw [hz]; exact Nat.mul_le_mul_right s hc
    refine ⟨by simp [h1]; omega, Or.inr ⟨g, c, Sort.setMany cur o vs, rfl, hg, blk_many vs hb, hc, hm, by rw [Sort.size_setMany, hz], ?_⟩⟩
    have hcl : cur.toList.length = cur.size := by simp
    have hAl : (cur.toList.take o ++ vs).length = o + vs.length := by rw [List.length_append, List.length_take]; omega
    rw [many_list _ _ _ (by omega), ← ht, List.take_append, List.take_of_length_le (by rw [hAl]; exact ho), hAl, List.take_take, Nat.min_eq_left (by omega), List.drop_take]
theorem own_there {w : World} {b n c g s o k : Nat} {e : TypeId} {xs : List Value} (h : w.ownsRow b e s (.slice (some ⟨g, 0, none⟩) n c) n xs) (ho : o + k ≤ n * s) : w.there g o k := by
  obtain ⟨h1, h2⟩ := h
  rcases h2 with ⟨h2, _⟩ | ⟨g', cap, cur, hv, hg, hb, hc, hm, hz, ht⟩
  · injection h2 with a
    cases a
  · injection hv with a1 a2 a3
    injection a1 with a1
    injection a1 with a1
    subst a1 a3
    have hcs : n * s ≤ cur.size := by rw [hz]; exact Nat.mul_le_mul_right s hc
    have hblk : Blk w g e cur := hb
    refine fun j hj => ⟨?_, hblk.frozen _⟩
    rw [hblk.cell, Array.getElem?_eq_getElem (by omega)]
    rfl
end Go.Proofs.YtiffmjfbdidgkaaGreat
/- A region that draws its order and stores last into a cell that it loads: every load is taken first, one condition on the worlds ahead of that store. -/
namespace Go.Proofs.YtiffmjfbdidgkaaGreat
open Go.RowKit
set_option linter.unusedSimpArgs false
set_option linter.unusedVariables false

section
variable {P : Program} {l : List Oper} {Q : Exit → Act → World → Prop} {S : World → Prop} {z : Nat}

/-- Whatever order is picked from here on; behind each operation but the last one, z, S holds. -/
def wpL (P : Program) (l : List Oper) (Q : Exit → Act → World → Prop) (S : World → Prop) (z : Nat) : Nat → Array Bool → Act → World → Prop
  | 0, d, a, w => Region.ready .any l.toArray d = [] ∧ Q .normal a w
  | n + 1, d, a, w => (Region.ready .any l.toArray d = [] → Q .normal a w) ∧
    ∀ i ∈ Region.ready .any l.toArray d, wpOp P l.toArray Q i (fun b v => (i ≠ z → S v) ∧ wpL P l Q S z n (d.setIfInBounds i true) b v) a w
theorem wpL_any : ∀ (n : Nat) (d : Array Bool) (a : Act) (w : World), wpL P l Q S z n d a w → wpAny P .any l.toArray Q n d a w
  | 0, _, _, _, h => h
  | n + 1, _, _, _, h => ⟨h.1, fun i hi => wpOp_mono (fun b v hv => wpL_any n _ b v hv.2) (h.2 i hi)⟩
/-- Does number z wait for number i? -/
def waitsL (l : List Oper) (z i : Nat) : Bool := match l[z]? with
  | none => false
  | some o => o.after.any fun e => Region.binds .any e && e.on == i
theorem ready_not {d : Array Bool} {i j : Nat} {oj : Oper} (hi : i ∈ Region.ready .any l.toArray d) (hj : j ∈ Region.ready .any l.toArray d) (hoj : l.toArray[j]? = some oj) : ∀ e ∈ oj.after, Region.binds .any e = true → e.on ≠ i := fun e he hb hx => by
  obtain ⟨_, o', ho', hall⟩ := mem_ready.1 hj
  rw [hoj] at ho'
  cases Option.some.inj ho'
  have h1 := hall e he hb
  have h2 := (mem_ready.1 hi).1
  rw [hx] at h1
  rcases Nat.lt_or_ge i d.size with h | h
  · simp [h] at h1 h2
    rw [h1] at h2
    cases h2
  · simp [Array.getElem?_eq_none h] at h1
theorem wpL_first {i : Nat} {oi : Oper} {v : Value} (hi : l.toArray[i]? = some oi) (hsel : ∀ (j : Nat) (o : Oper) cs b, l.toArray[j]? = some o → o.op ≠ .select cs b)
    (hQ : ∀ c a w, Q (.panic c) (a.put oi.dst v) w → Q (.panic c) a w) (hz : waitsL l z i = true) (n : Nat) : ∀ (d : Array Bool) (a : Act) (w : World),
      (∀ j oj, l.toArray[j]? = some oj → j ≠ i → d.getD j true = false → (∀ e ∈ oj.after, Region.binds .any e = true → e.on ≠ i) → oi.apart l.toArray oj = true) →
      i ∈ Region.ready .any l.toArray d → YieldsIf P l.toArray S oi v a → S w → wpL P l Q S z n (d.setIfInBounds i true) (a.put oi.dst v) w → wpL P l Q S z (n + 1) d a w := by
  have hne : ∀ d : Array Bool, i ∈ Region.ready .any l.toArray d → ∀ j ∈ Region.ready .any l.toArray d, j ≠ i → j ≠ z := fun d hr j hj _ e => by
    subst e
    obtain ⟨_, oj, hoj, _⟩ := mem_ready.1 hj
    have h := ready_not hr hj hoj
    unfold waitsL at hz
    rw [show l[j]? = some oj from by simpa using hoj] at hz
    obtain ⟨e, he, hb⟩ := Array.any_eq_true'.1 hz
    rw [Bool.and_eq_true, beq_iff_eq] at hb
    exact h e he hb.1 hb.2
  induction n with
  | zero =>
    intro d a w _ hr hy hS H
    refine ⟨fun h => (by rw [h] at hr; cases hr), fun j hj => ?_⟩
    by_cases hji : j = i
    · subst hji
      exact hy.wpOp hi hS ⟨fun _ => hS, H⟩
    · have := ready_mono hj hji
      rw [H.1] at this
      cases this
  | succ n ih =>
    intro d a w hfree hr hy hS H
    refine ⟨fun h => (by rw [h] at hr; cases hr), fun j hj => ?_⟩
    by_cases hji : j = i
    · subst hji
      exact hy.wpOp hi hS ⟨fun _ => hS, H⟩
    · have hjz := hne d hr j hj hji
      obtain ⟨hun, oj, hoj, _⟩ := mem_ready.1 hj
      have step := wpOp_putIf hoj (hfree j oj hoj hji hun (ready_not hr hj hoj)) (fun cs b => hsel i oi cs b hi) (fun cs b => hsel j oj cs b hoj) hQ hy (H.2 j (ready_mono hj hji))
      refine wpOp_mono (fun b u hbu => ⟨fun _ => hbu.2.1 hjz, ih (d.setIfInBounds j true) b u (fun k ok hk hki hku hno => ?_) (ready_mono hr (Ne.symm hji)) hbu.1 (hbu.2.1 hjz) ?_⟩) step
      · refine hfree k ok hk hki ?_ hno
        by_cases hjk : j = k
        · subst hjk; exact hun
        · rwa [getD_set_ne true hjk] at hku
      · rw [Array.setIfInBounds_comm _ _ hji]
        exact hbu.2.2
theorem wpL_take {i : Nat} {oi : Oper} {v : Value} {n : Nat} {d : Array Bool} {a : Act} {w : World} (hi : l[i]? = some oi) (hs : Region.noSelect l.toArray = true) (hf : Region.free .any l.toArray d i = true)
    (hr : (Region.ready .any l.toArray d).contains i = true) (hz : waitsL l z i = true) (hQ : ∀ c a w, Q (.panic c) (a.put oi.dst v) w → Q (.panic c) a w) (hy : YieldsIf P l.toArray S oi v a) (hS : S w)
    (h : wpL P l Q S z n (d.setIfInBounds i true) (a.put oi.dst v) w) : wpL P l Q S z (n + 1) d a w :=
  wpL_first (by simpa using hi) (Region.noSelect_spec hs) hQ hz n d a w (Region.free_spec (by simpa using hi) hf) (by simpa using hr) hy hS h
/-- Each of those comes up next. -/
def AllL (P : Program) (l : List Oper) (Q : Exit → Act → World → Prop) (S : World → Prop) (z n : Nat) (d : Array Bool) (a : Act) (w : World) (rs : List Nat) : Prop :=
  ∀ i ∈ rs, wpOp P l.toArray Q i (fun b v => (i ≠ z → S v) ∧ wpL P l Q S z n (d.setIfInBounds i true) b v) a w
theorem AllL.nil {n : Nat} {d : Array Bool} {a : Act} {w : World} : AllL P l Q S z n d a w [] := fun _ h => by cases h
theorem AllL.cons {n i : Nat} {d : Array Bool} {a : Act} {w : World} {o : Oper} {rs : List Nat} (ho : l[i]? = some o)
    (h : ∀ K : Act → World → Prop, Shut (∀ b v, (i ≠ z → S v) → ((i ≠ z → S v) → wpL P l Q S z n (d.setIfInBounds i true) b v) → K b v) → if Region.wanted o (yielded l.toArray a.tmps) = true then Oper.wp P o a w K Q else K (a.put o.dst undef) w)
    (hs : AllL P l Q S z n d a w rs) : AllL P l Q S z n d a w (i :: rs) := fun j hj => by
  rcases List.mem_cons.1 hj with rfl | hj
  · exact wpOp_step (by simpa using ho) (fun K hK => h K (fun b v hS hW => hK b v ⟨hS, hW hS⟩))
  · exact hs j hj
theorem wpL_ready {rs : List Nat} {n : Nat} {d : Array Bool} {a : Act} {w : World} (hr : Region.ready .any l.toArray d = rs) (hne : rs ≠ []) (h : AllL P l Q S z n d a w rs) : wpL P l Q S z (n + 1) d a w :=
  ⟨fun h0 => absurd (hr ▸ h0) hne, hr ▸ h⟩
theorem wpL_done {d : Array Bool} {a : Act} {w : World} (hr : Region.ready .any l.toArray d = []) (h : Q .normal a w) : ∀ n, wpL P l Q S z n d a w
  | 0 => ⟨hr, h⟩
  | _ + 1 => ⟨fun _ => h, by rw [hr]; simp⟩
theorem wpL_region {id n : Nat} {d : Array Bool} {a : Act} {w : World} (hm : P.follows .mixedOrders = true) (hn : l.length = n) (hd : Array.replicate n false = d) (hS : S w.drew) (h : S w.drew → wpL P l Q S z n d a w.drew) : (Code.region id l.toArray true).wp P Q a w :=
  wp_region_any hm (by
    subst hn hd
    have := wpL_any _ _ _ _ (h hS)
    simpa using this)
end
end Go.Proofs.YtiffmjfbdidgkaaGreat
