/- Plain lists: the bytes of a number (enc), and the number that stands in a list (dec). Nothing of the program. -/
namespace Go.Proofs.Ytcebnmhkbhhfiaa

/-- The groups of m, with fuel. -/
def encF : Nat → Nat → List Int
  | 0, m => [(m : Int)]
  | f + 1, m => if m < 128 then [(m : Int)] else ((m % 128 + 128 : Nat) : Int) :: encF f (m / 128)
def enc (m : Nat) : List Int := encF m m
theorem encF_any (f : Nat) : ∀ g m, m ≤ f → m ≤ g → encF f m = encF g m := by
  induction f with
  | zero => intro g m h _; obtain rfl : m = 0 := by omega
            cases g <;> simp [encF]
  | succ f ih =>
    intro g m h1 h2
    cases g with
    | zero => obtain rfl : m = 0 := by omega
              simp [encF]
    | succ g =>
      unfold encF
      by_cases h : m < 128
      · simp [h]
      · simp only [if_neg h]
        rw [ih g (m / 128) (by omega) (by omega)]
theorem enc_small {m : Nat} (h : m < 128) : enc m = [(m : Int)] := by
  unfold enc
  cases m <;> simp [encF, h]
theorem enc_big {m : Nat} (h : 128 ≤ m) : enc m = ((m % 128 + 128 : Nat) : Int) :: enc (m / 128) := by
  unfold enc
  obtain ⟨k, rfl⟩ : ∃ k, m = k + 1 := ⟨m - 1, by omega⟩
  rw [encF, if_neg (by omega), encF_any k ((k + 1) / 128) ((k + 1) / 128) (by omega) (by omega)]
theorem enc_pos (m : Nat) : 0 < (enc m).length := by
  by_cases h : m < 128
  · simp [enc_small h]
  · simp [enc_big (by omega : 128 ≤ m)]
theorem enc_len (k : Nat) : ∀ m, m < 128 ^ (k + 1) → (enc m).length ≤ k + 1 := by
  induction k with
  | zero => intro m h; rw [enc_small (by omega)]; simp
  | succ k ih =>
    intro m h
    by_cases h1 : m < 128
    · rw [enc_small h1]; simp
    · rw [enc_big (by omega)]
      have := ih (m / 128) (by rw [Nat.div_lt_iff_lt_mul (by omega)]; rw [Nat.pow_succ] at h; exact h)
      simp; omega
theorem enc_bound (f : Nat) : ∀ m, m ≤ f → ∀ z ∈ enc m, 0 ≤ z ∧ z ≤ 255 := by
  induction f with
  | zero => intro m h z hz; rw [enc_small (by omega)] at hz; simp at hz; omega
  | succ f ih =>
    intro m h z hz
    by_cases h1 : m < 128
    · rw [enc_small h1] at hz; simp at hz; omega
    · rw [enc_big (by omega)] at hz
      rcases List.mem_cons.1 hz with rfl | hz
      · omega
      · exact ih _ (by omega) z hz

/-- The number whose groups stand at the head of a list, from shift s on, upon acc; and how many groups. -/
def dec : Nat → Int → List Int → Option (Int × Nat)
  | _, _, [] => none
  | s, acc, g :: l =>
    if 40 ≤ s then none
    else if g < 128 then (if (g = 0 ∧ 0 < s) ∨ 1099511627775 < acc + g * 2 ^ s then none else some (acc + g * 2 ^ s, 1))
    else (dec (s + 7) (acc + (g - 128) * 2 ^ s) l).map fun p => (p.1, p.2 + 1)
/-- What a taker answers that stands at place nx. -/
def res (s : Nat) (acc : Int) (nx : Nat) (l : List Int) : Int × Int × Bool :=
  match dec s acc l with
  | none => (0, 0, false)
  | some (n, k) => (n, (nx : Int) + k, true)
def takeS (l : List Int) (i : Int) : Int × Int × Bool := if i < 0 then (0, 0, false) else res 0 0 i.toNat (l.drop i.toNat)
theorem res_nil (s : Nat) (acc : Int) (nx : Nat) : res s acc nx [] = (0, 0, false) := rfl
theorem res_far {s : Nat} (acc : Int) (nx : Nat) (l : List Int) (h : 40 ≤ s) : res s acc nx l = (0, 0, false) := by
  cases l <;> simp [res, dec, h]
theorem res_last {s : Nat} {acc g : Int} {nx : Nat} {l : List Int} (h : s < 40) (hg : g < 128) :
    res s acc nx (g :: l) = if (g = 0 ∧ 0 < s) ∨ 1099511627775 < acc + g * 2 ^ s then (0, 0, false) else (acc + g * 2 ^ s, ((nx + 1 : Nat) : Int), true) := by
  simp only [res, dec, if_neg (by omega : ¬ 40 ≤ s), if_pos hg]
  split <;> rename_i h1
  · split at h1
    · rw [if_pos (by assumption)]
    · cases h1
  · split at h1
    · cases h1
    · rw [if_neg (by assumption)]
      injection h1 with h1
      injection h1 with h1 h2
      subst h1; subst h2; rfl
theorem res_more {s : Nat} {acc g : Int} {nx : Nat} {l : List Int} (h : s < 40) (hg : 128 ≤ g) :
    res s acc nx (g :: l) = res (s + 7) (acc + (g - 128) * 2 ^ s) (nx + 1) l := by
  simp only [res, dec, if_neg (by omega : ¬ 40 ≤ s), if_neg (by omega : ¬ g < 128)]
  cases dec (s + 7) (acc + (g - 128) * 2 ^ s) l with
  | none => rfl
  | some p => simp; omega

theorem pow_pos' (s : Nat) : (1 : Int) ≤ 2 ^ s := by
  have := Nat.pow_pos (n := s) (show 0 < 2 by omega)
  exact_mod_cast this
theorem shift_lt {s : Nat} (h : (2 : Int) ^ s ≤ 1099511627775) : s < 40 := by
  rcases Nat.lt_or_ge s 40 with h1 | h1
  · exact h1
  · exfalso
    have h2 : (2 : Int) ^ 40 ≤ 2 ^ s := by
      have := Nat.pow_le_pow_right (n := 2) (by omega) h1
      exact_mod_cast this
    omega
/-- What is written is taken. -/
theorem dec_enc (post : List Int) (f : Nat) : ∀ (m s : Nat) (acc : Int), m ≤ f → 0 ≤ acc → (m = 0 → s = 0) → acc + (m : Int) * 2 ^ s ≤ 1099511627775 →
    dec s acc (enc m ++ post) = some (acc + (m : Int) * 2 ^ s, (enc m).length) := by
  induction f with
  | zero =>
    intro m s acc hm _ hz ht
    obtain rfl : m = 0 := by omega
    obtain rfl : s = 0 := hz rfl
    have h0 : acc ≤ 1099511627775 := by simpa using ht
    rw [enc_small (by omega)]
    simp [dec]; omega
  | succ f ih =>
    intro m s acc hm ha hz ht
    have hp := pow_pos' s
    by_cases h0 : m = 0
    · subst h0
      obtain rfl : s = 0 := hz rfl
      have h0 : acc ≤ 1099511627775 := by simpa using ht
      rw [enc_small (by omega)]
      simp [dec]; omega
    have hle : (2 : Int) ^ s ≤ (m : Int) * 2 ^ s := by
      have h1 : (1 : Int) * 2 ^ s ≤ (m : Int) * 2 ^ s := Int.mul_le_mul_of_nonneg_right (by omega) (by omega)
      omega
    have hs := shift_lt (s := s) (by omega)
    by_cases h : m < 128
    · rw [enc_small h]
      simp only [List.cons_append, List.nil_append, dec]
      rw [if_neg (by omega), if_pos (by omega), if_neg (by omega)]
      rfl
    · rw [enc_big (by omega)]
      simp only [List.cons_append, dec]
      rw [if_neg (by omega), if_neg (by omega)]
      have e : acc + (((m % 128 + 128 : Nat) : Int) - 128) * 2 ^ s + ((m / 128 : Nat) : Int) * 2 ^ (s + 7) = acc + (m : Int) * 2 ^ s := by
        have e1 : (m : Int) = ((m / 128 : Nat) : Int) * 128 + ((m % 128 : Nat) : Int) := by omega
        have e2 : (((m % 128 + 128 : Nat) : Int) - 128) = ((m % 128 : Nat) : Int) := by omega
        rw [e2, Int.pow_add, show (2 : Int) ^ 7 = 128 from rfl]
        conv => rhs; rw [e1]
        rw [Int.add_mul, Int.mul_assoc, Int.mul_comm 128 (2 ^ s)]
        omega
      have hnn : 0 ≤ (((m % 128 + 128 : Nat) : Int) - 128) * 2 ^ s := Int.mul_nonneg (by omega) (by omega)
      rw [ih (m / 128) (s + 7) _ (by omega) (by omega) (by omega) (by rw [e]; exact ht), e]
      simp
/-- A number that is written at a place is taken there. -/
theorem takeS_enc (pre post : List Int) (m : Nat) (hm : m < 1099511627776) : takeS (pre ++ (enc m ++ post)) pre.length = ((m : Int), (pre.length : Int) + (enc m).length, true) := by
  unfold takeS
  rw [if_neg (by omega), show ((pre.length : Int)).toNat = pre.length from rfl, List.drop_left]
  unfold res
  rw [dec_enc post m m 0 0 (Nat.le_refl _) (by omega) (fun _ => rfl) (by simp; omega)]
  simp
theorem takeS_enc0 (m : Nat) (hm : m < 1099511627776) : takeS (enc m) 0 = ((m : Int), ((enc m).length : Int), true) := by
  have h := takeS_enc [] [] m hm
  simpa using h
/-- No number's groups are the beginning of another one's. -/
theorem enc_begins {m n : Nat} (hm : m < 1099511627776) (hn : n < 1099511627776) (h : enc m <+: enc n) : m = n := by
  obtain ⟨post, hp⟩ := h
  have h1 := takeS_enc [] post m hm
  have h2 := takeS_enc0 n hn
  rw [← hp] at h2
  simp only [List.nil_append, List.length_nil] at h1
  rw [show ((0 : Nat) : Int) = 0 from rfl, h2] at h1
  injection h1 with h3 _
  omega
theorem enc_unlike {m n : Nat} (hm : m < 1099511627776) (hn : n < 1099511627776) (hne : m ≠ n) :
    (enc m).take (min (enc m).length (enc n).length) ≠ (enc n).take (min (enc m).length (enc n).length) := by
  intro h
  rcases Nat.le_total (enc m).length (enc n).length with hl | hl
  · rw [Nat.min_eq_left hl, List.take_length] at h
    exact hne (enc_begins hm hn (h ▸ List.take_prefix _ _))
  · rw [Nat.min_eq_right hl, List.take_length] at h
    exact hne (enc_begins hn hm (h ▸ List.take_prefix _ _)).symm
/-- What is taken is written as just the bytes that it was taken from. -/
theorem dec_back : ∀ (l : List Int) (s : Nat) (acc n : Int) (k : Nat), (∀ z ∈ l, 0 ≤ z ∧ z ≤ 255) → dec s acc l = some (n, k) →
    ∃ m : Nat, n = acc + (m : Int) * 2 ^ s ∧ l.take k = enc m ∧ k ≤ l.length ∧ 1 ≤ k ∧ (m = 0 → s = 0) ∧ n ≤ 1099511627775
  | [], s, acc, n, k, _, h => by simp [dec] at h
  | g :: l, s, acc, n, k, hz, h => by
    have hg := hz g (List.mem_cons_self ..)
    simp only [dec] at h
    by_cases hs : 40 ≤ s
    · rw [if_pos hs] at h; cases h
    rw [if_neg hs] at h
    by_cases h1 : g < 128
    · rw [if_pos h1] at h
      by_cases h2 : (g = 0 ∧ 0 < s) ∨ 1099511627775 < acc + g * 2 ^ s
      · rw [if_pos h2] at h; cases h
      · rw [if_neg h2] at h
        injection h with h
        injection h with h3 h4
        subst h3; subst h4
        refine ⟨g.toNat, ?_, ?_, by simp, by omega, by omega, by omega⟩
        · rw [Int.toNat_of_nonneg hg.1]
        · rw [enc_small (by omega)]
          simp; omega
    · rw [if_neg h1] at h
      rw [Option.map_eq_some_iff] at h
      obtain ⟨⟨n', k'⟩, hd, he⟩ := h
      injection he with h3 h4
      subst h3; subst h4
      obtain ⟨m, e1, e2, e3, e4, e5, e6⟩ := dec_back l (s + 7) _ n' k' (fun z hzz => hz z (List.mem_cons_of_mem _ hzz)) hd
      have hm : m ≠ 0 := fun h0 => by have := e5 h0; omega
      refine ⟨(g - 128).toNat + 128 * m, ?_, ?_, by simp; omega, by omega, by omega, e6⟩
      · rw [e1, Int.pow_add, show (2 : Int) ^ 7 = 128 from rfl]
        rw [show (((g - 128).toNat + 128 * m : Nat) : Int) = (g - 128) + (m : Int) * 128 by omega, Int.add_mul, Int.mul_assoc, Int.mul_comm 128 (2 ^ s)]
        omega
      · rw [enc_big (by omega), List.take_succ_cons, e2]
        congr 1
        · omega
        · congr 1
          omega
theorem takeS_cases (l : List Int) (i : Int) (hz : ∀ z ∈ l, 0 ≤ z ∧ z ≤ 255) :
    takeS l i = (0, 0, false) ∨ ∃ (m p q : Nat), i = p ∧ takeS l i = ((m : Int), (q : Int), true) ∧ p < q ∧ q ≤ l.length ∧ m < 1099511627776 ∧ (l.drop p).take (q - p) = enc m := by
  unfold takeS
  by_cases h : i < 0
  · rw [if_pos h]; exact Or.inl rfl
  · rw [if_neg h]
    obtain ⟨p, rfl⟩ := Int.eq_ofNat_of_zero_le (show 0 ≤ i by omega)
    rw [show ((p : Int)).toNat = p from rfl]
    unfold res
    rcases hd : dec 0 0 (l.drop p) with _ | ⟨n, k⟩
    · exact Or.inl rfl
    · obtain ⟨m, e1, e2, e3, e4, _, e6⟩ := dec_back _ 0 0 n k (fun z hzz => hz z (List.mem_of_mem_drop hzz)) hd
      have e7 : n = m := by simpa using e1
      subst e7
      have e8 : k ≤ l.length - p := by simpa using e3
      exact Or.inr ⟨m, p, p + k, rfl, rfl, by omega, by omega, by omega, by rw [Nat.add_sub_cancel_left]; exact e2⟩
/-- Numbers one behind the other. -/
def flat (ns : List Nat) : List Int := ns.flatMap enc
theorem flat_app (l m : List Nat) : flat (l ++ m) = flat l ++ flat m := by simp [flat]
theorem flat_cons (m : Nat) (l : List Nat) : flat (m :: l) = enc m ++ flat l := rfl
theorem flat_len : ∀ (ns : List Nat), (∀ m ∈ ns, m < 1099511627776) → (flat ns).length ≤ 6 * ns.length
  | [], _ => by simp [flat]
  | m :: l, h => by
    have h1 := enc_len 5 m (by have := h m (List.mem_cons_self ..); omega)
    have h2 := flat_len l fun k hk => h k (List.mem_cons_of_mem _ hk)
    rw [flat_cons]
    simp; omega
theorem flat_u8 (ns : List Nat) : ∀ z ∈ flat ns, 0 ≤ z ∧ z ≤ 255 := fun z hz => by
  obtain ⟨m, _, hm⟩ := List.mem_flatMap.1 hz
  exact enc_bound m m (Nat.le_refl _) z hm
theorem take_more {α : Type} {l r : List α} {j : Nat} {x : α} (h : l.drop j = x :: r) : l.take (j + 1) = l.take j ++ [x] ∧ j < l.length := by
  have hj : j < l.length := by
    rcases Nat.lt_or_ge j l.length with h1 | h1
    · exact h1
    · rw [List.drop_eq_nil_of_le h1] at h; cases h
  rw [List.drop_eq_getElem_cons hj] at h
  injection h with h1 _
  exact ⟨by rw [List.take_succ_eq_append_getElem hj, h1], hj⟩
theorem flat_at {ns r : List Nat} {j m : Nat} (h : ns.drop j = m :: r) (hm : m < 1099511627776) :
    takeS (flat ns) ((flat (ns.take j)).length : Int) = ((m : Int), ((flat (ns.take (j + 1))).length : Int), true) ∧ (flat (ns.take j)).length < (flat (ns.take (j + 1))).length := by
  have h1 := (take_more h).1
  have h2 : flat ns = flat (ns.take j) ++ (enc m ++ flat r) := by
    conv => lhs; rw [← List.take_append_drop j ns, h]
    rw [flat_app, flat_cons]
  have h3 := takeS_enc (flat (ns.take j)) (flat r) m hm
  rw [← h2] at h3
  have h4 : (flat (ns.take (j + 1))).length = (flat (ns.take j)).length + (enc m).length := by
    rw [h1, flat_app, flat_cons]; simp [flat]
  have h5 := enc_pos m
  rw [h3, h4]
  exact ⟨by simp, by omega⟩
end Go.Proofs.Ytcebnmhkbhhfiaa
