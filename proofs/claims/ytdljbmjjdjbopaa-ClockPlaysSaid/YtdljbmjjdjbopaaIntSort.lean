/- Rows of ints: the library's sort, Compact, BinarySearch, over rows of the call's own. -/
import Derived.Test.YtdljbmjjdjbopaaRowCells
import Derived.Test.YtdljbmjjdjbopaaIntLaid
namespace Go.Proofs.Ytdljbmjjdjbopaa
open Go.RowKit

theorem putCells_map (off : Nat) (d : Array Int) (c : Array Value) : Sort.putCells (Value.int .i64) off d c = Sort.putCells id off (d.map (Value.int .i64)) c := by
  unfold Sort.putCells
  rw [Array.size_map]
  congr 1
  funext k x
  by_cases h : off ≤ k ∧ k < off + d.size
  · rw [if_pos h, if_pos h, getElem!_pos d _ (by omega), getElem!_pos (d.map (Value.int .i64)) _ (by simp; omega), Array.getElem_map]
    rfl
  · rw [if_neg h, if_neg h]
theorem putRow_map (w : World) (g off : Nat) (d : Array Int) : Sort.putRow (Value.int .i64) w g off d = Sort.putRow id w g off (d.map (Value.int .i64)) := by
  unfold Sort.putRow
  congr 1
  funext c
  exact putCells_map off d c
theorem holds_int {w : World} {b n c g : Nat} {e : TypeId} {d : List Int} (h : w.ownsRow b e 1 (.slice (some ⟨g, 0, none⟩) n c) n (d.map (Value.int .i64))) (hd : d.length = n) : Sort.Holds (Value.int .i64) w g 0 d.toArray := by
  have hw := has_rows h
  intro j hj
  have hjn : j < n := by simp at hj; omega
  refine ⟨?_, ?_⟩
  · have hu : (d.map (Value.int .i64))[j]? = some (.int .i64 d.toArray[j]!) := by
      rw [getElem!_pos _ j hj, List.getElem?_map, List.getElem?_eq_getElem (by omega)]
      simp
    obtain ⟨ad, he, _, hc⟩ := hw j _ hu
    cases he
    rw [Addr.add_mid] at hc
    exact hc
  · rw [Nat.zero_add]
    exact (own_there h (o := j) (k := 1) (by omega) 0 (by omega)).2
theorem put_ints {w : World} {g : Nat} {d d' : List Int} (h : Sort.Holds (Value.int .i64) w g 0 d.toArray) (hs : d'.length = d.length) : Sort.putRow (Value.int .i64) w g 0 d'.toArray = w.setCells g 0 (d'.map (Value.int .i64)) := by
  have h1 := Sort.setCells_putRow w g 0 (d'.map (Value.int .i64)) 0 (d.toArray.map (Value.int .i64)) (by simp [hs])
  rw [← putRow_map, Sort.putRow_self _ w g 0 _ h] at h1
  rw [show (0 : Nat) + 0 = 0 from rfl] at h1
  rw [h1, putRow_map]
  congr 1
  refine Array.toList_inj.1 ?_
  rw [many_list _ _ _ (by simp [hs])]
  simp [hs]
/-- A row of ints of the call's own, laid anew by the library. -/
theorem own_ints {w : World} {b n c g m : Nat} {e : TypeId} {os : Array Obj} {d d' : List Int} (h : w.ownsRow b e 1 (.slice (some ⟨g, 0, none⟩) n c) n (d.map (Value.int .i64))) (hd : d.length = n) (hd' : d'.length = n) :
    (Sort.grow (Sort.putRow (Value.int .i64) (Sort.ahead w m) g 0 d'.toArray) os).ownsRow b e 1 (.slice (some ⟨g, 0, none⟩) n c) n (d'.map (Value.int .i64)) ∧ RowKit.Below b w (Sort.grow (Sort.putRow (Value.int .i64) (Sort.ahead w m) g 0 d'.toArray) os) := by
  have hg := h.lt g rfl
  have h0 : (Sort.ahead w m).ownsRow b e 1 (.slice (some ⟨g, 0, none⟩) n c) n (d.map (Value.int .i64)) := h
  rw [put_ints (holds_int h0 hd) (hd'.trans hd.symm)]
  have ho := own_cells h0 (o := 0) (vs := d'.map (Value.int .i64)) (by simp [hd'])
  rw [List.take_zero, List.nil_append, List.drop_eq_nil_of_le (by simp [hd, hd']), List.append_nil] at ho
  have hb : RowKit.Below b w ((Sort.ahead w m).setCells g 0 (d'.map (Value.int .i64))) := below_many _ (w2 := Sort.ahead w m) ⟨rfl, rfl, rfl, Nat.le_refl _, fun _ _ => rfl⟩ hg.1
  have hb2 : RowKit.Below ((Sort.ahead w m).setCells g 0 (d'.map (Value.int .i64))).heap.size ((Sort.ahead w m).setCells g 0 (d'.map (Value.int .i64))) (Sort.grow ((Sort.ahead w m).setCells g 0 (d'.map (Value.int .i64))) os) :=
    ⟨rfl, rfl, rfl, by show _ ≤ (_ ++ os).size; simp, fun k hk => by show (_ ++ os)[k]? = _; rw [Array.getElem?_append_left hk]⟩
  exact ⟨below_own ho hb2 (Nat.le_refl _), hb.trans (hb2.mono (by have := hb.size; omega))⟩
/-- A row's head. -/
theorem own_first {w : World} {base n c k s : Nat} {e : TypeId} {A : Option Addr} {xs : List Value} (h : w.ownsRow base e s (.slice A n c) n xs) (hk : k ≤ n) : w.ownsRow base e s (.slice A k c) k (xs.take (k * s)) := by
  have hks : k * s ≤ n * s := Nat.mul_le_mul_right s hk
  refine ⟨by rw [List.length_take, h.1]; omega, ?_⟩
  rcases h.2 with ⟨h2, h3⟩ | ⟨g, cap, cur, hv, hg, hb, hc, hm, hz, ht⟩
  · injection h2 with a1 a2 a3
    subst a1 a3
    exact Or.inl ⟨by rw [show k = 0 by omega], by omega⟩
  · injection hv with a1 a2 a3
    subst a1 a3
    exact Or.inr ⟨g, c, cur, rfl, hg, hb, by omega, hm, hz, by rw [← ht, List.take_take, Nat.min_eq_left hks]⟩
theorem sorted_ints (zs : List Int) : (zs.mergeSort fun x y => decide (x ≤ y)).Pairwise (· ≤ ·) :=
  (List.pairwise_mergeSort (fun a b c h1 h2 => by simp only [decide_eq_true_eq] at *; omega) (fun a b => by simp only [Bool.or_eq_true, decide_eq_true_eq]; omega) zs).imp fun h => of_decide_eq_true h
theorem mem_sorted {zs : List Int} {z : Int} : z ∈ zs.mergeSort (fun x y => decide (x ≤ y)) ↔ z ∈ zs := (List.mergeSort_perm zs _).mem_iff
theorem int_compact {d : Array Int} (hs : ∀ i j, i < j → j < d.size → d[i]! ≤ d[j]!) : ∀ m, m ≤ d.size → (Lib.compactUpTo d m).Pairwise (· < ·) ∧ ∀ z, z ∈ Lib.compactUpTo d m ↔ ∃ j, j < m ∧ d[j]! = z
  | 0, _ => ⟨List.Pairwise.nil, fun r => ⟨fun h => absurd h (by simp [Lib.compactUpTo]), fun ⟨_, h, _⟩ => absurd h (by omega)⟩⟩
  | m + 1, hm => by
    obtain ⟨h1, h2⟩ := int_compact hs m (by omega)
    rw [Lib.compactUpTo_succ]
    by_cases hk : Lib.keeps d m = true
    · rw [if_pos hk]
      constructor
      · refine List.pairwise_append.2 ⟨h1, List.pairwise_singleton _ _, fun a ha b hb => ?_⟩
        rw [List.mem_singleton.1 hb]
        obtain ⟨j, hj, rfl⟩ := (h2 a).1 ha
        have hle := hs j m hj (by omega)
        rcases of_decide_eq_true hk with hm0 | hne
        · omega
        · by_cases hjm : j = m - 1
          · subst hjm; omega
          · have a1 := hs j (m - 1) (by omega) (by omega)
            have a2 := hs (m - 1) m (by omega) (by omega)
            omega
      · intro r
        rw [List.mem_append, List.mem_singleton, h2]
        constructor
        · rintro (⟨j, hj, e⟩ | e)
          · exact ⟨j, by omega, e⟩
          · exact ⟨m, by omega, e.symm⟩
        · rintro ⟨j, hj, e⟩
          by_cases hjm : j = m
          · subst hjm; exact Or.inr e.symm
          · exact Or.inl ⟨j, by omega, e⟩
    · rw [if_neg hk, List.append_nil]
      refine ⟨h1, fun r => ?_⟩
      have hk2 : ¬ (m = 0 ∨ d[m]! ≠ d[m - 1]!) := fun h => hk (decide_eq_true h)
      have hm0 : m ≠ 0 := fun h => hk2 (Or.inl h)
      have hme : d[m]! = d[m - 1]! := by
        by_cases he : d[m]! = d[m - 1]!
        · exact he
        · exact absurd (Or.inr he) hk2
      rw [h2]
      constructor
      · rintro ⟨j, hj, e⟩
        exact ⟨j, by omega, e⟩
      · rintro ⟨j, hj, e⟩
        by_cases hjm : j = m
        · subst hjm; exact ⟨j - 1, by omega, hme ▸ e⟩
        · exact ⟨j, by omega, e⟩
/-- What is sorted and compacted: rising, the same numbers. -/
theorem int_once (zs : List Int) : (Lib.compact (zs.mergeSort fun x y => decide (x ≤ y))).Pairwise (· < ·) ∧ (∀ z, z ∈ Lib.compact (zs.mergeSort fun x y => decide (x ≤ y)) ↔ z ∈ zs) ∧ (Lib.compact (zs.mergeSort fun x y => decide (x ≤ y))).length ≤ zs.length := by
  obtain ⟨l, hl⟩ : ∃ l, zs.mergeSort (fun x y => decide (x ≤ y)) = l := ⟨_, rfl⟩
  have hs := sorted_ints zs
  have hm := fun z => mem_sorted (zs := zs) (z := z)
  have hlen := List.length_mergeSort (le := fun x y => decide (x ≤ y)) zs
  rw [hl] at hs hm hlen ⊢
  obtain ⟨h1, h2⟩ := int_compact (d := l.toArray) (fun i j hij hj => by
    have hj' : j < l.length := by simpa using hj
    rw [getElem!_pos l.toArray i (by simp; omega), getElem!_pos l.toArray j hj]
    exact List.pairwise_iff_getElem.1 hs i j (by omega) hj' hij) l.length (by simp)
  refine ⟨h1, fun z => ?_, ?_⟩
  · rw [show Lib.compact l = Lib.compactUpTo l.toArray l.length from rfl, h2, ← hm, List.mem_iff_getElem]
    constructor
    · rintro ⟨j, hj, e⟩
      exact ⟨j, hj, by rw [getElem!_pos l.toArray j (by simpa using hj)] at e; simpa using e⟩
    · rintro ⟨j, hj, e⟩
      exact ⟨j, hj, by rw [getElem!_pos l.toArray j (by simpa using hj)]; simpa using e⟩
  · rw [← hlen]
    show (Lib.compactUpTo l.toArray l.length).length ≤ _
    unfold Lib.compactUpTo
    rw [List.length_map]
    have := List.length_filter_le (Lib.keeps l.toArray) (List.range l.length)
    simpa using this
end Go.Proofs.Ytdljbmjjdjbopaa
