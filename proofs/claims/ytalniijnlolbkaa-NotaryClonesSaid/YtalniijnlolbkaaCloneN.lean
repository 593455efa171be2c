/- The contract of the notary's Clone. -/
import Derived.Test.YtalniijnlolbkaaNotary
import Derived.Shelf.SlMaps.Clone
namespace Go.Proofs.Ytalniijnlolbkaa
open Go.RowKit Go.Maps

set_option maxHeartbeats 2000000 in
theorem clone_map {w : World} {b : Nat} {es : Array MapEntry} {clock : Nat} (hb : w.heap[b]? = some (.map es clock)) :
    Calls Try.prog 21 #[.map (some b)] w fun e w' => e = .returned (.map (some w.heap.size)) ∧ w' = w.alloc (.map es clock) := by
  have hq := fun w => run_eql_map_nil_sl (P := Try.prog) w 46 _ _ (some b) Try.underlying46
  go_enter Try.func21, Try.ntmps21
  go_wp2
  rw [run_callFunc_extern Try.func22 (by kernel_rfl) (by kernel_rfl) (by kernel_rfl) (e := Extern.MapsClone.clone) (by kernel_rfl), run_maps_clone_sl w 46 hb]
  simp only [Result.andThen]
  rw [Oper.upon_value]
  go_wp2
  rw [run_typeAssert_map_sl _ 46 20 _ _ _ Try.underlying46]
  simp only [Result.andThen]
  rw [Oper.upon_value]
  go_wp2
  go_ret
  exact ⟨rfl, rfl⟩

set_option maxHeartbeats 400000 in
theorem clone_any {w : World} {nb bm : Nat} {l : List Deed} (h : Nt w nb bm l) :
    Calls Try.prog 13 #[.pointer (some ⟨nb, 0, none⟩)] w fun e w' => ∃ nb2 bm2, e = .returned (.pointer (some ⟨nb2, 0, none⟩)) ∧ Nt w' nb2 bm2 l ∧ Nt w' nb bm l ∧ w.heap.size ≤ nb2 ∧ w.heap.size ≤ bm2 ∧ Below w.heap.size w w' := by
  have hcell := h.blk.cell 0
  simp only [List.getElem?_toArray, List.getElem?_cons_zero] at hcell
  obtain ⟨D, ⟨es, clock, hb, F, hs, hD⟩, h2⟩ := h.map
  have HB := Lib.hid hb
  have HN := Lib.hid h
  have HM : ∀ w' : World, w'.heap[w.heap.size]? = some (.map es clock) → w'.ownsMap Try.prog 51 (plainElem Try.prog 3) w.heap.size l.length D := fun w' hw => ⟨es, clock, hw, F, hs, hD⟩
  have HM2 := Lib.hid HM
  have H2 := Lib.hid h2
  clear h hb F hs hD h2 HM
  go_enter Try.func13, Try.ntmps13
  go_wp2_with fail
  refine (clone_map HB.out).mono ?_
  rintro e w' ⟨rfl, rfl⟩
  go_wp2_with fail
  go_ret
  have h1 : (w.alloc (.map es clock)).heap.size = w.heap.size + 1 := by simp
  have hb1 : Below w.heap.size w (w.alloc (.map es clock)) := (Below.refl _ _).alloc (Nat.le_refl _) _
  have hb2 : Below w.heap.size w ((w.alloc (.map es clock)).alloc (.cells #[.map (some w.heap.size)] 48)) := hb1.alloc (by rw [h1]; omega) _
  refine ⟨_, _, rfl, ⟨Blk.new1 w _ _ _, D, HM2.out _ ?_, H2.out⟩, HN.out.below hb2, Nat.le_succ _, Nat.le_refl _, hb2⟩
  rw [Below.heap_alloc _ _ _ (by rw [h1]; omega)]
  exact (MapKept.heap_alloc w _).1
end Go.Proofs.Ytalniijnlolbkaa
