/- Words on seals: the list of the deeds that have a seal, the map that reads as it, strings out of bytes. -/
import Derived.Test.YtcebnmhkbhhfiaaGears
import Derived.Maps.OwnSet
import Derived.DeepKeys4
import Derived.Laws.BytesArg
import Derived.Lib.Hide
namespace Go.Proofs.Ytcebnmhkbhhfiaa
open Go.RowKit Go.Maps

/-- What a seal belongs to: a party and a string. -/
abbrev Deed := Int × ByteArray
structure Deed.Fits (d : Deed) : Prop where
  party : fit d.1
  text : d.2.size ≤ maxLen
/-- Its place in a list (the list's length, where it isn't there). -/
def idx : List Deed → Deed → Nat
  | [], _ => 0
  | x :: l, d => if x = d then 0 else idx l d + 1
theorem idx_lt {d : Deed} : ∀ {l : List Deed}, d ∈ l → idx l d < l.length
  | x :: l, h => by
    unfold idx
    by_cases hx : x = d
    · rw [if_pos hx]; simp
    · rw [if_neg hx]
      have := idx_lt (l := l) (by rcases List.mem_cons.1 h with h | h; exact absurd h.symm hx; exact h)
      simp; omega
theorem idx_get {d : Deed} : ∀ {l : List Deed}, d ∈ l → l[idx l d]? = some d
  | x :: l, h => by
    unfold idx
    by_cases hx : x = d
    · rw [if_pos hx]; simp [hx]
    · rw [if_neg hx]
      have := idx_get (l := l) (by rcases List.mem_cons.1 h with h | h; exact absurd h.symm hx; exact h)
      simpa using this
theorem idx_not {d : Deed} : ∀ {l : List Deed}, d ∉ l → idx l d = l.length
  | [], _ => rfl
  | x :: l, h => by
    unfold idx
    rw [if_neg (fun e => h (by simp [e])), idx_not (l := l) (fun e => h (by simp [e]))]
    rfl
theorem idx_app {d : Deed} (m : List Deed) : ∀ {l : List Deed}, d ∈ l → idx (l ++ m) d = idx l d
  | x :: l, h => by
    show idx (x :: (l ++ m)) d = idx (x :: l) d
    unfold idx
    by_cases hx : x = d
    · rw [if_pos hx, if_pos hx]
    · rw [if_neg hx, if_neg hx, idx_app m (l := l) (by rcases List.mem_cons.1 h with h | h; exact absurd h.symm hx; exact h)]
theorem idx_new {d : Deed} : ∀ {l : List Deed}, d ∉ l → idx (l ++ [d]) d = l.length
  | [], _ => by simp [idx]
  | x :: l, h => by
    show idx (x :: (l ++ [d])) d = _
    unfold idx
    rw [if_neg (fun e => h (by simp [e])), idx_new (l := l) (fun e => h (by simp [e]))]
    rfl
instance deedIn (l : List Deed) (d : Deed) : Decidable (d ∈ l) :=
  decidable_of_iff (idx l d < l.length) ⟨fun h => Classical.byContradiction fun hn => by rw [idx_not hn] at h; omega, idx_lt⟩
/-- No deed twice: the place of the i-th is i. -/
theorem idx_at {d : Deed} {i : Nat} : ∀ {l : List Deed}, l.Nodup → l[i]? = some d → idx l d = i := by
  induction i with
  | zero =>
    intro l _ h
    cases l with
    | nil => simp at h
    | cons x l =>
      obtain rfl : x = d := by simpa using h
      simp [idx]
  | succ i ih =>
    intro l hn h
    cases l with
    | nil => simp at h
    | cons x l =>
      have h1 : l[i]? = some d := by simpa using h
      have hm : d ∈ l := List.mem_of_getElem? h1
      have hx : x ≠ d := fun e => (List.nodup_cons.1 hn).1 (e ▸ hm)
      unfold idx
      rw [if_neg hx, ih (List.nodup_cons.1 hn).2 h1]
/-- What Find tells, and what Seal does. -/
def findS (l : List Deed) (d : Deed) : Int := if d ∈ l then (idx l d : Int) + 1 else 0
def sealed (l : List Deed) (d : Deed) : List Deed := if d ∈ l then l else l ++ [d]
def sealS (l : List Deed) (d : Deed) : Int := (idx l d : Int) + 1
theorem findS_in {l : List Deed} {d : Deed} (h : d ∈ l) : findS l d = (idx l d : Int) + 1 := if_pos h
theorem findS_out {l : List Deed} {d : Deed} (h : d ∉ l) : findS l d = 0 := if_neg h
theorem sealed_in {l : List Deed} {d : Deed} (h : d ∈ l) : sealed l d = l := if_pos h
theorem sealed_out {l : List Deed} {d : Deed} (h : d ∉ l) : sealed l d = l ++ [d] := if_neg h
theorem sealS_out {l : List Deed} {d : Deed} (h : d ∉ l) : sealS l d = (l.length : Int) + 1 := by unfold sealS; rw [idx_not h]
theorem sealed_len (l : List Deed) (d : Deed) : (sealed l d).length ≤ l.length + 1 := by unfold sealed; split <;> simp
theorem sealed_nodup {l : List Deed} (h : l.Nodup) (d : Deed) : (sealed l d).Nodup := by
  unfold sealed
  split
  · exact h
  · rename_i hd
    exact List.nodup_append.2 ⟨h, by simp, fun a ha b hb => by rw [List.mem_singleton.1 hb]; exact fun e => hd (e ▸ ha)⟩
theorem sealed_fits {l : List Deed} (h : ∀ x ∈ l, x.Fits) {d : Deed} (hd : d.Fits) : ∀ x ∈ sealed l d, x.Fits := by
  unfold sealed
  split
  · exact h
  · intro x hx
    rcases List.mem_append.1 hx with hx | hx
    · exact h x hx
    · rw [List.mem_singleton.1 hx]; exact hd

/-! ### the key's type -/
theorem deed_laid : laidOutB Try.prog = true := by kernel_rfl
theorem deed_int : Try.prog.cellsOf 3 = 1 := by kernel_rfl
theorem deed_str : Try.prog.cellsOf 9 = 1 := by kernel_rfl
def Deed.val (d : Deed) : Value := .agg #[.int .i64 d.1, .string d.2]
def Deed.lit (d : Deed) : Lit := .string (keyBytes [.int .i64 d.1, .string d.2.data.toList])
/-! ### the map -/
abbrev i64D (z : Int) : DataW Unit := .lit (.int .i64 z)
/-- The map's datum tells just the list. -/
structure Book (D : DataW Unit) (l : List Deed) : Prop where
  has : ∀ d : Deed, d.Fits → Maps.has D d.lit = decide (d ∈ l)
  at_ : ∀ d : Deed, d.Fits → D.atKey d.lit (i64D 0) = i64D (findS l d)
  size : Maps.size D = l.length
theorem Book.empty : Book (.map []) [] := ⟨fun d _ => by simp [Maps.has], fun d _ => by simp [DataW.atKey, findS], rfl⟩
/-! ### strings out of bytes -/
theorem str_size (zs : List Int) : (strOfNums zs).size = zs.length := by simp [strOfNums, ByteArray.size]
theorem str_eq (a b : ByteArray) : (a.toList == b.toList) = decide (a = b) := by
  rw [Go.ByteArray.toList_eq, Go.ByteArray.toList_eq]
  by_cases h : a = b
  · subst h; simp
  · rw [decide_eq_false h, beq_eq_false_iff_ne]
    exact fun e => h (WideShapes.bytes_inj e)
end Go.Proofs.Ytcebnmhkbhhfiaa
