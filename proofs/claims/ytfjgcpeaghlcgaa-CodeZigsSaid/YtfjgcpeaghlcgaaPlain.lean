/- Plain lists: the bytes of a number (enc), and the number that stands in a list (dec). Nothing of the program. -/
namespace Go.Proofs.Ytfjgcpeaghlcgaa

/-- The groups of m, with fuel. -/
def encF : Nat → Nat → List Int
  | 0, m => [(m : Int)]
  | f + 1, m => if m < 128 then [(m : Int)] else ((m % 128 + 128 : Nat) : Int) :: encF f (m / 128)
def enc (m : Nat) : List Int := encF m m
theorem encF_any (f : Nat) : ∀ g m, m ≤ f → m ≤ g → encF f m = encF g m := by
  induction f with
  | zero => intro g m h _; obtain rfl : m = 0 := by omega
            cases g <;> simp [encF]
  | succ f ih =>
    intro g m h1 h2
    cases g with
    | zero => obtain rfl : m = 0 := by omega
              simp [encF]
    | succ g =>
      unfold encF
      by_cases h : m < 128
      · simp [h]
      · simp only [if_neg h]
        rw [ih g (m / 128) (by omega) (by omega)]
theorem enc_small {m : Nat} (h : m < 128) : enc m = [(m : Int)] := by
  unfold enc
  cases m <;> simp [encF, h]
theorem enc_big {m : Nat} (h : 128 ≤ m) : enc m = ((m % 128 + 128 : Nat) : Int) :: enc (m / 128) := by
  unfold enc
  obtain ⟨k, rfl⟩ : ∃ k, m = k + 1 := ⟨m - 1, by omega⟩
  rw [encF, if_neg (by omega), encF_any k ((k + 1) / 128) ((k + 1) / 128) (by omega) (by omega)]
theorem enc_pos (m : Nat) : 0 < (enc m).length := by
  by_cases h : m < 128
  · simp [enc_small h]
  · simp [enc_big (by omega : 128 ≤ m)]
theorem enc_len (k : Nat) : ∀ m, m < 128 ^ (k + 1) → (enc m).length ≤ k + 1 := by
  induction k with
  | zero => intro m h; rw [enc_small (by omega)]; simp
  | succ k ih =>
    intro m h
    by_cases h1 : m < 128
    · rw [enc_small h1]; simp
    · rw [enc_big (by omega)]
      have := ih (m / 128) (by rw [Nat.div_lt_iff_lt_mul (by omega)]; rw [Nat.pow_succ] at h; exact h)
      simp; omega
theorem enc_bound (f : Nat) : ∀ m, m ≤ f → ∀ z ∈ enc m, 0 ≤ z ∧ z ≤ 255 := by
  induction f with
  | zero => intro m h z hz; rw [enc_small (by omega)] at hz; simp at hz; omega
  | succ f ih =>
    intro m h z hz
    by_cases h1 : m < 128
    · rw [enc_small h1] at hz; simp at hz; omega
    · rw [enc_big (by omega)] at hz
      rcases List.mem_cons.1 hz with rfl | hz
      · omega
      · exact ih _ (by omega) z hz

/-- The number whose groups stand at the head of a list, from shift s on, upon acc; and how many groups. -/
def dec : Nat → Int → List Int → Option (Int × Nat)
  | _, _, [] => none
  | s, acc, g :: l =>
    if 40 ≤ s then none
    else if g < 128 then (if (g = 0 ∧ 0 < s) ∨ 1099511627775 < acc + g * 2 ^ s then none else some (acc + g * 2 ^ s, 1))
    else (dec (s + 7) (acc + (g - 128) * 2 ^ s) l).map fun p => (p.1, p.2 + 1)
/-- What a taker answers that stands at place nx. -/
def res (s : Nat) (acc : Int) (nx : Nat) (l : List Int) : Int × Int × Bool :=
  match dec s acc l with
  | none => (0, 0, false)
  | some (n, k) => (n, (nx : Int) + k, true)
def takeS (l : List Int) (i : Int) : Int × Int × Bool := if i < 0 then (0, 0, false) else res 0 0 i.toNat (l.drop i.toNat)
theorem res_nil (s : Nat) (acc : Int) (nx : Nat) : res s acc nx [] = (0, 0, false) := rfl
theorem res_far {s : Nat} (acc : Int) (nx : Nat) (l : List Int) (h : 40 ≤ s) : res s acc nx l = (0, 0, false) := by
  cases l <;> simp [res, dec, h]
theorem res_last {s : Nat} {acc g : Int} {nx : Nat} {l : List Int} (h : s < 40) (hg : g < 128) :
    res s acc nx (g :: l) = if (g = 0 ∧ 0 < s) ∨ 1099511627775 < acc + g * 2 ^ s then (0, 0, false) else (acc + g * 2 ^ s, ((nx + 1 : Nat) : Int), true) := by
  simp only [res, dec, if_neg (by omega : ¬ 40 ≤ s), if_pos hg]
  split <;> rename_i h1
  · split at h1
    · rw [if_pos (by assumption)]
    · cases h1
  · split at h1
    · cases h1
    · rw [if_neg (by assumption)]
      injection h1 with h1
      injection h1 with h1 h2
      subst h1; subst h2; rfl
theorem res_more {s : Nat} {acc g : Int} {nx : Nat} {l : List Int} (h : s < 40) (hg : 128 ≤ g) :
    res s acc nx (g :: l) = res (s + 7) (acc + (g - 128) * 2 ^ s) (nx + 1) l := by
  simp only [res, dec, if_neg (by omega : ¬ 40 ≤ s), if_neg (by omega : ¬ g < 128)]
  cases dec (s + 7) (acc + (g - 128) * 2 ^ s) l with
  | none => rfl
  | some p => simp; omega
end Go.Proofs.Ytfjgcpeaghlcgaa
