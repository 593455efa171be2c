/- Package clock: Due. -/
import Derived.Test.YtdljbmjjdjbopaaClock
import Derived.Maps.RangeWalk
namespace Go.Proofs.Ytdljbmjjdjbopaa
open Go.RowKit Go.Maps

def ics (l : List Int) : List Value := l.map (Value.int .i64)
theorem ics_app (l m : List Int) : ics (l ++ m) = ics l ++ ics m := by simp [ics]
theorem ics_one (l : List Int) : ∀ u ∈ ics l, u.oneCell' = true := by
  intro u hu
  obtain ⟨z, _, rfl⟩ := List.mem_map.1 hu
  rfl
theorem ics_len (l : List Int) : (ics l).length = l.length := by simp [ics]
theorem ics_at {l : List Int} {k : Nat} {z : Int} (h : l[k]? = some z) : (ics l)[k]? = some (.int .i64 z) := by simp [ics, h]
def Ts.strip (S : Ts) (zs : List Int) : Ts := fun p => if p ∈ zs then none else S p
theorem Ts.strip_nil (S : Ts) : S.strip [] = S := by funext p; simp [Ts.strip]
theorem Ts.strip_next (S : Ts) {zs : List Int} {k : Nat} {z : Int} (h : zs[k]? = some z) : (S.strip (zs.take k)).del z = S.strip (zs.take (k + 1)) := by
  funext p
  unfold Ts.strip Ts.del
  rw [List.take_add_one, h]
  by_cases e : p = z
  · subst e; simp
  · simp [e]
/-- The ids met so far: those that are due and no longer to come. -/
structure Got (S : Ts) (now : Int) (left : Lit → Bool) (zs : List Int) : Prop where
  nodup : zs.Nodup
  mem : ∀ p, p ∈ zs ↔ (∃ f, S p = some f ∧ f ≤ now) ∧ left (.int .i64 p) = false
theorem Got.start {D : DataW Unit} {S : Ts} (h : Tells D S) (now : Int) : Got S now (Maps.has D) [] := by
  refine ⟨List.nodup_nil, fun p => ⟨fun h => (by cases h), fun ⟨⟨f, hf, _⟩, hl⟩ => ?_⟩⟩
  have h1 := h.has p (h.fits p f hf).1
  rw [hf, hl] at h1
  cases h1
theorem Tells.val {D : DataW Unit} {S : Ts} (h : Tells D S) {x c : Int} (hx : fit x) (hat : ∀ zd, D.atKey (.int .i64 x) zd = .lit (.int .i64 c)) : S x = some c := by
  have h1 := has_true_of_atKey hat
  rw [h.has x hx] at h1
  cases hS : S x with
  | none => rw [hS] at h1; cases h1
  | some f =>
    have h2 := h.at_ x f hS (.lit (.int .i64 0))
    rw [hat] at h2
    injection h2 with h2
    injection h2 with _ h2
    rw [h2]
theorem struck (left : Lit → Bool) {x p : Int} (hx : fit x) : (left (.int .i64 p) && !(Lit.int .i64 p).sameKey (.int .i64 x)) = if p = x then false else left (.int .i64 p) := by
  by_cases e : p = x
  · subst e
    rw [if_pos rfl, WideAt.sameKey_self (cint_law.key (cint_key hx))]
    simp
  · rw [if_neg e, sameKey_ne (fun he => e (by injection he))]
    simp
theorem Got.put {S : Ts} {now x c : Int} {left : Lit → Bool} {zs : List Int} (h : Got S now left zs) (hx : fit x) (hl : left (.int .i64 x) = true) (hS : S x = some c) (hc : c ≤ now) :
    Got S now (fun z => left z && !z.sameKey (.int .i64 x)) (zs ++ [x]) := by
  have hn : x ∉ zs := fun hm => by
    have := ((h.mem x).1 hm).2
    rw [hl] at this
    cases this
  refine ⟨List.nodup_append.2 ⟨h.nodup, by simp, fun a ha b hb => ?_⟩, fun p => ?_⟩
  · rw [List.mem_singleton.1 hb]
    rintro rfl
    exact hn ha
  · show p ∈ zs ++ [x] ↔ _ ∧ (left (.int .i64 p) && !(Lit.int .i64 p).sameKey (.int .i64 x)) = false
    rw [struck left hx, List.mem_append, List.mem_singleton, h.mem p]
    by_cases e : p = x
    · subst e
      simp only [if_pos, or_true, and_true, true_iff]
      exact ⟨c, hS, hc⟩
    · rw [if_neg e]; simp only [e, or_false]
theorem Got.skip {S : Ts} {now x c : Int} {left : Lit → Bool} {zs : List Int} (h : Got S now left zs) (hx : fit x) (hS : S x = some c) (hc : ¬ c ≤ now) :
    Got S now (fun z => left z && !z.sameKey (.int .i64 x)) zs := by
  refine ⟨h.nodup, fun p => ?_⟩
  show p ∈ zs ↔ _ ∧ (left (.int .i64 p) && !(Lit.int .i64 p).sameKey (.int .i64 x)) = false
  rw [struck left hx, h.mem p]
  by_cases e : p = x
  · subst e
    simp only [if_pos, and_true]
    constructor
    · exact fun h => h.1
    · rintro ⟨f, hf, hfn⟩
      rw [hS] at hf
      cases hf
      exact absurd hfn hc
  · simp only [if_neg e]
theorem cinfo_int : (Try.prog.info? 3).map (fun i => (i.zero, i.size, i.bytes)) = some (some (.int .i64 0), 1, 8) := by kernel_rfl
theorem csorted (zs : List Int) : (zs.mergeSort fun x y => decide (x ≤ y)).Pairwise (· ≤ ·) :=
  (List.pairwise_mergeSort (fun a b c h1 h2 => by simp only [decide_eq_true_eq] at *; omega) (fun a b => by simp only [Bool.or_eq_true, decide_eq_true_eq]; omega) zs).imp fun h => of_decide_eq_true h
theorem cmem {zs : List Int} {z : Int} : z ∈ zs.mergeSort (fun x y => decide (x ≤ y)) ↔ z ∈ zs := (List.mergeSort_perm zs _).mem_iff
theorem rising_eq : ∀ {l m : List Int}, l.Pairwise (· < ·) → m.Pairwise (· < ·) → (∀ z, z ∈ l ↔ z ∈ m) → l = m
  | [], [], _, _, _ => rfl
  | [], y :: m, _, _, h => absurd ((h y).2 (by simp)) (by simp)
  | x :: l, [], _, _, h => absurd ((h x).1 (by simp)) (by simp)
  | x :: l, y :: m, hl, hm, h => by
    have h1 := List.pairwise_cons.1 hl
    have h2 := List.pairwise_cons.1 hm
    have hxy : x = y := by
      rcases List.mem_cons.1 ((h x).1 (by simp)) with e | e
      · exact e
      · rcases List.mem_cons.1 ((h y).2 (by simp)) with e' | e'
        · exact e'.symm
        · have a := h2.1 x e
          have b := h1.1 y e'
          omega
    subst hxy
    rw [rising_eq (l := l) (m := m) h1.2 h2.2 fun r => by
      have hr := h r
      constructor
      · intro hl'
        rcases List.mem_cons.1 (hr.1 (by simp [hl'])) with e | e
        · subst e; have := h1.1 r hl'; omega
        · exact e
      · intro hm'
        rcases List.mem_cons.1 (hr.2 (by simp [hm'])) with e | e
        · subst e; have := h2.1 r hm'; omega
        · exact e]
/-- What Due answers. -/
structure DueIs (S : Ts) (now : Int) (l : List Int) : Prop where
  up : l.Pairwise (· < ·)
  mem : ∀ p, p ∈ l ↔ ∃ f, S p = some f ∧ f ≤ now
theorem Got.due {S : Ts} {now : Int} {left : Lit → Bool} {zs : List Int} (h : Got S now left zs) (hl : ∀ kl, left kl = false) : DueIs S now (zs.mergeSort fun x y => decide (x ≤ y)) := by
  have h1 := csorted zs
  have h2 : (zs.mergeSort fun x y => decide (x ≤ y)).Nodup := (List.mergeSort_perm zs _).nodup_iff.2 h.nodup
  refine ⟨?_, fun p => by rw [cmem, h.mem p, hl]; simp⟩
  exact (h1.and h2).imp fun ⟨a, b⟩ => by omega
theorem Ts.strip_due {S : Ts} {now : Int} {l : List Int} (h : DueIs S now l) : S.strip l = fun p => if (∃ f, S p = some f ∧ f ≤ now) then none else S p := by
  funext p
  unfold Ts.strip
  by_cases e : p ∈ l
  · rw [if_pos e, if_pos ((h.mem p).1 e)]
  · rw [if_neg e, if_neg (fun he => e ((h.mem p).2 he))]
theorem Ts.strip_perm (S : Ts) {l m : List Int} (h : ∀ z, z ∈ l ↔ z ∈ m) : S.strip l = S.strip m := by
  funext p
  unfold Ts.strip
  by_cases e : p ∈ l
  · rw [if_pos e, if_pos ((h p).1 e)]
  · rw [if_neg e, if_neg (fun he => e ((h p).2 he))]
/-- While the map is ranged over. -/
structure D1 (w : World) (cb bm r N : Nat) (D : DataW Unit) (S : Ts) (now : Int) (v : Value) (cnt : Nat) (wr : World) : Prop where
  ex : ∃ left zs, wr.ranges Try.prog 3 (plainElem Try.prog 3) bm r N D left cnt ∧ zs.length + cnt ≤ N ∧ wr.ownsRow w.heap.size 3 1 v zs.length (ics zs) ∧ Got S now left zs
  low : Below w.heap.size w wr
/-- While the ids are struck. -/
structure D2 (w : World) (cb bm N : Nat) (S : Ts) (now : Int) (A : Option Addr) (c : Nat) (zs : List Int) (k : Nat) (wr : World) : Prop where
  ck : Ck wr cb bm now N (S.strip (zs.take k))
  row : wr.ownsRow w.heap.size 3 1 (.slice A zs.length c) zs.length (ics zs)
  turn : Turn (fun k => k = bm) w wr
end Go.Proofs.Ytdljbmjjdjbopaa
