/- Rows of requests: the library's sort, what Compact leaves. -/
import Derived.Test.YtdopgdaobpcbjaaRowCells
import Derived.Test.YtdopgdaobpcbjaaReqLaid
import Derived.Test.YtdopgdaobpcbjaaRefOrder
import Derived.Lib.SlicesCompact
import Derived.Deep.MidRow
namespace Go.Proofs.Ytdopgdaobpcbjaa
open Go.RowKit

instance : Inhabited Rq := ⟨⟨0, 0, 0, 0, 0, 0⟩⟩
/-! ### the row as the library's sort sees it -/
theorem flat_req (d : Array Rq) : (Sort.flatK Rq.cells 6 d).toList = reqCells d.toList := by
  refine List.ext_getElem? fun t => ?_
  by_cases ht : t < d.size * 6
  · have hk : t / 6 < d.toList.length := by simp; omega
    have e := flatMap_at (f := Rq.cells) (s := 6) (fun _ => rfl) hk (i := t % 6) (Nat.mod_lt _ (by omega))
    rw [Nat.mul_comm, Nat.div_add_mod] at e
    rw [show reqCells d.toList = d.toList.flatMap Rq.cells from rfl, e]
    have h2 := Sort.get_flatK Rq.cells 6 d t ht
    have hs : t < (Sort.flatK Rq.cells 6 d).size := by simpa using ht
    have hd : d[t / 6]! = d.toList[t / 6] := by rw [getElem!_pos d (t / 6) (by simpa using hk)]; simp
    have h6 : t % 6 < (Rq.cells d.toList[t / 6]).length := Nat.mod_lt _ (by omega)
    rw [getElem!_pos _ t hs, hd, getElem!_pos _ (t % 6) h6] at h2
    rw [List.getElem?_eq_getElem h6, List.getElem?_eq_getElem (by simpa using hs), Array.getElem_toList, h2]
  · rw [List.getElem?_eq_none (by simp; omega), List.getElem?_eq_none (by rw [reqCells_len]; simp; omega)]
theorem holds_own {w : World} {b n c g : Nat} {e : TypeId} {d : Array Rq} (h : w.ownsRow b e 6 (.slice (some ⟨g, 0, none⟩) n c) n (reqCells d.toList)) (hd : d.size = n) : Sort.HoldsK Rq.cells 6 w g 0 d := by
  have hw := has_rows h
  intro j hj
  have hjn : j < n * 6 := by rw [Sort.size_flatK, hd] at hj; exact hj
  refine ⟨?_, ?_⟩
  · have hu : (reqCells d.toList)[j]? = some (Sort.flatK Rq.cells 6 d)[j]! := by
      rw [← flat_req, getElem!_pos _ j hj, List.getElem?_eq_getElem (by simpa using hj), Array.getElem_toList]
    obtain ⟨ad, he, _, hc⟩ := hw j _ hu
    cases he
    rw [Addr.add_mid] at hc
    exact hc
  · rw [Nat.zero_add]
    exact (own_there h (o := j) (k := 1) (by omega) 0 (by omega)).2
theorem put_cells {w : World} {g : Nat} {d d' : Array Rq} (h : Sort.HoldsK Rq.cells 6 w g 0 d) (hs : d'.size = d.size) : Sort.putRowK Rq.cells 6 w g 0 d' = w.setCells g 0 (reqCells d'.toList) := by
  have h1 := Sort.setCells_putRow w g 0 (reqCells d'.toList) 0 (Sort.flatK Rq.cells 6 d) (by rw [reqCells_len]; simp [hs])
  rw [show Sort.putRow id w g 0 (Sort.flatK Rq.cells 6 d) = w from Sort.putRowK_self Rq.cells 6 w g 0 d h] at h1
  rw [show (0 : Nat) + 0 = 0 from rfl] at h1
  rw [h1]
  unfold Sort.putRowK
  congr 1
  refine Array.toList_inj.1 ?_
  rw [many_list _ _ _ (by rw [reqCells_len]; simp [hs]), flat_req]
  simp
  rw [reqCells_len]
  simp [hs]
theorem below_grow0 (w : World) (os : Array Obj) : Below w.heap.size w (Sort.grow w os) := below_grow w 0 os
theorem own_sorted {w : World} {b n c g m : Nat} {e : TypeId} {os : Array Obj} {d d' : Array Rq} (h : w.ownsRow b e 6 (.slice (some ⟨g, 0, none⟩) n c) n (reqCells d.toList)) (hd : d.size = n) (hd' : d'.size = n) :
    (sortWorldK Rq.cells 6 w g 0 m d' os).ownsRow b e 6 (.slice (some ⟨g, 0, none⟩) n c) n (reqCells d'.toList) ∧ Below b w (sortWorldK Rq.cells 6 w g 0 m d' os) := by
  have hg := h.lt g rfl
  have h0 : (Sort.ahead w m).ownsRow b e 6 (.slice (some ⟨g, 0, none⟩) n c) n (reqCells d.toList) := h
  have hh := holds_own h0 hd
  unfold sortWorldK
  rw [put_cells hh (hd'.trans hd.symm)]
  have hl : (reqCells d'.toList).length = n * 6 := by rw [reqCells_len]; simp [hd']
  have ho := own_cells h0 (o := 0) (vs := reqCells d'.toList) (by omega)
  rw [List.take_zero, List.nil_append, List.drop_eq_nil_of_le (by rw [h.1, hl]; omega), List.append_nil] at ho
  have hb : Below b w ((Sort.ahead w m).setCells g 0 (reqCells d'.toList)) := below_many _ (w2 := Sort.ahead w m) ⟨rfl, rfl, rfl, Nat.le_refl _, fun _ _ => rfl⟩ hg.1
  have hb2 := below_grow0 ((Sort.ahead w m).setCells g 0 (reqCells d'.toList)) os
  exact ⟨below_own ho hb2 (Nat.le_refl _), hb.trans (hb2.mono (by have := hb.size; omega))⟩
theorem lt_cmp (x y : Rq) : ltOf cmpR x y = decide (cmpR x y < 0) := rfl
theorem swoR : Sort.SWO (ltOf cmpR) where
  irrefl x := by rw [lt_cmp, cmpR_self]; rfl
  trans x y z h1 h2 := by
    rw [lt_cmp, decide_eq_true_eq] at *
    exact cmpR_trans h1 h2
  ntrans x y z h1 h2 := by
    rw [lt_cmp, decide_eq_false_iff_not] at *
    have := cmpR_ge (a := x) (b := y) (c := z) (by omega) (by omega)
    omega
/-- slices.SortFunc at requests by Compare. -/
theorem sort_reqs {w : World} {b n c g : Nat} {d : Array Rq} (h : w.ownsRow b 34 6 (.slice (some ⟨g, 0, none⟩) n c) n (reqCells d.toList)) (hd : d.size = n) (hn : n ≤ 1000000) :
    Calls Try.prog 39 #[.slice (some ⟨g, 0, none⟩) n c, .func (.func 34) #[] #[]] w fun e w' => e = .returned (.tuple #[]) ∧ ∃ d' : Array Rq, d'.size = n ∧ (∀ r, r ∈ d'.toList ↔ r ∈ d.toList) ∧ (∀ i j, i < j → j < n → cmpR d'[i]! d'[j]! ≤ 0) ∧
      w'.ownsRow b 34 6 (.slice (some ⟨g, 0, none⟩) n c) n (reqCells d'.toList) ∧ Below b w w' := by
  subst hd
  have eg : ∀ args w, (callFunc 34 args).run Try.prog w = .ok (.enter 34 args) w := enters_of Try.func34 (by kernel_rfl) rfl
  have hcmp : CmpLays Try.prog 34 #[] Rq.cells 6 cmpR g 0 d.size w := fun _ _ _ _ x y => compare_grow x y _
  refine (AnyQ.slices_SortFunc sortReq 6 Try.isAgg34 Try.sizeOf34 Rq.cells (fun _ => rfl) (fun x v hv => by simp [Rq.cells] at hv; rcases hv with rfl | rfl | rfl | rfl | rfl | rfl <;> rfl) cmpR swoR 34 #[] g 0 c d w eg hcmp (holds_own h rfl) (h.lt g rfl).2 (by omega)).mono ?_
  rintro e w' ⟨rfl, d', m, os, hp, hs, rfl⟩
  have hsz : d'.size = d.size := hp.1
  obtain ⟨ho, hb⟩ := own_sorted (m := m) (os := os) (d' := d') h rfl hsz
  refine ⟨rfl, d', hsz, fun r => ?_, fun i j hij hj => ?_, ho, hb⟩
  · have hpp := hp.2.2
    rw [show d.extract 0 d.size = d by simp, show d'.extract 0 d.size = d' by rw [← hsz]; simp] at hpp
    exact hpp.mem_iff
  · have := hs i j (Nat.zero_le _) hij hj
    rw [lt_cmp, decide_eq_false_iff_not, cmpR_anti] at this
    omega
/-! ### what Compact keeps of a row in order -/
theorem comp_ris {d : Array Rq} (hs : ∀ i j, i < j → j < d.size → cmpR d[i]! d[j]! ≤ 0) : ∀ m, m ≤ d.size → Ris (Lib.compactUpTo d m) ∧ ∀ r, r ∈ Lib.compactUpTo d m ↔ ∃ j, j < m ∧ d[j]! = r
  | 0, _ => ⟨List.Pairwise.nil, fun r => ⟨fun h => absurd h (by simp [Lib.compactUpTo]), fun ⟨_, h, _⟩ => absurd h (by omega)⟩⟩
  | m + 1, hm => by
    obtain ⟨h1, h2⟩ := comp_ris hs m (by omega)
    rw [Lib.compactUpTo_succ]
    by_cases hk : Lib.keeps d m = true
    · rw [if_pos hk]
      constructor
      · refine List.pairwise_append.2 ⟨h1, List.pairwise_singleton _ _, fun a ha b hb => ?_⟩
        rw [List.mem_singleton.1 hb]
        obtain ⟨j, hj, rfl⟩ := (h2 a).1 ha
        have hle := hs j m hj (by omega)
        by_cases h0 : cmpR d[j]! d[m]! = 0
        case neg => omega
        exfalso
        have he := cmpR_zero h0
        rcases of_decide_eq_true hk with hm0 | hne
        · omega
        · by_cases hjm : j = m - 1
          · subst hjm; exact hne he.symm
          · have a1 := hs j (m - 1) (by omega) (by omega)
            have a2 := hs (m - 1) m (by omega) (by omega)
            rw [he, cmpR_anti] at a1
            exact hne (cmpR_zero (a := d[m - 1]!) (b := d[m]!) (by omega)).symm
      · intro r
        rw [List.mem_append, List.mem_singleton, h2]
        constructor
        · rintro (⟨j, hj, e⟩ | e)
          · exact ⟨j, by omega, e⟩
          · exact ⟨m, by omega, e.symm⟩
        · rintro ⟨j, hj, e⟩
          by_cases hjm : j = m
          · subst hjm; exact Or.inr e.symm
          · exact Or.inl ⟨j, by omega, e⟩
    · rw [if_neg hk, List.append_nil]
      refine ⟨h1, fun r => ?_⟩
      have hk2 : ¬ (m = 0 ∨ d[m]! ≠ d[m - 1]!) := fun h => hk (decide_eq_true h)
      have hm0 : m ≠ 0 := fun h => hk2 (Or.inl h)
      have hme : d[m]! = d[m - 1]! := by
        by_cases he : d[m]! = d[m - 1]!
        · exact he
        · exact absurd (Or.inr he) hk2
      rw [h2]
      constructor
      · rintro ⟨j, hj, e⟩
        exact ⟨j, by omega, e⟩
      · rintro ⟨j, hj, e⟩
        by_cases hjm : j = m
        · subst hjm; exact ⟨j - 1, by omega, hme ▸ e⟩
        · exact ⟨j, by omega, e⟩
/-- In order, each once: what the document's Order gives. -/
theorem comp_order {d : Array Rq} {zs : List Rq} (hs : ∀ i j, i < j → j < d.size → cmpR d[i]! d[j]! ≤ 0) (hm : ∀ r, r ∈ d.toList ↔ r ∈ zs) : Lib.compactUpTo d d.size = orderS zs := by
  obtain ⟨h1, h2⟩ := comp_ris hs d.size (Nat.le_refl _)
  refine orderS_is h1 fun r => ?_
  rw [h2, ← hm, List.mem_iff_getElem]
  constructor
  · rintro ⟨j, hj, e⟩
    exact ⟨j, by simpa using hj, by rw [getElem!_pos d j hj] at e; simpa using e⟩
  · rintro ⟨j, hj, e⟩
    exact ⟨j, by simpa using hj, by rw [getElem!_pos d j (by simpa using hj)]; simpa using e⟩
end Go.Proofs.Ytdopgdaobpcbjaa
