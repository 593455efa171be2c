/- Package clock: Clone. -/
import Derived.Test.YtdljbmjjdjbopaaClock
import Derived.Shelf.SlMaps.Clone
namespace Go.Proofs.Ytdljbmjjdjbopaa
open Go.RowKit Go.Maps

set_option maxHeartbeats 2000000 in
theorem clone_ints {w : World} {b : Nat} {es : Array MapEntry} {clock : Nat} (hb : w.heap[b]? = some (.map es clock)) :
    Calls Try.prog 23 #[.map (some b)] w fun e w' => e = .returned (.map (some w.heap.size)) ∧ w' = w.alloc (.map es clock) := by
  have hq := fun w => run_eql_map_nil_sl (P := Try.prog) w 46 _ _ (some b) Try.underlying46
  go_enter Try.func23, Try.ntmps23
  go_wp2
  rw [run_callFunc_extern Try.func26 (by kernel_rfl) (by kernel_rfl) (by kernel_rfl) (e := Extern.MapsClone.clone) (by kernel_rfl), run_maps_clone_sl w 46 hb]
  simp only [Result.andThen]
  rw [Oper.upon_value]
  go_wp2
  rw [run_typeAssert_map_sl _ 46 20 _ _ _ Try.underlying46]
  simp only [Result.andThen]
  rw [Oper.upon_value]
  go_wp2
  go_ret
  exact ⟨rfl, rfl⟩

set_option maxHeartbeats 1000000 in
theorem cclone_any {w : World} {cb bm N : Nat} {now : Int} {S : Ts} (h : Ck w cb bm now N S) :
    Calls Try.prog 18 #[.pointer (some ⟨cb, 0, none⟩)] w fun e w' => ∃ cb2 bm2, e = .returned (.pointer (some ⟨cb2, 0, none⟩)) ∧ Ck w' cb2 bm2 now N S ∧ Ck w' cb bm now N S ∧ w.heap.size ≤ cb2 ∧ w.heap.size ≤ bm2 ∧ Below w.heap.size w w' := by
  obtain ⟨D, ⟨es, clock, hb, F, hs, hD⟩, h2⟩ := h.map
  have HB := Lib.hid (show w.drew.heap[bm]? = some (.map es clock) from hb)
  have HN := Lib.hid h
  have hc0 := (h.drewN 1).blk.cell 0
  have hc1 := (h.drewN 1).blk.cell 1
  have hd0 := (h.below ((Below.refl _ _).alloc (Nat.le_refl _) (.map es clock))).blk.cell 0
  simp only [List.getElem?_toArray, List.getElem?_cons_zero, List.getElem?_cons_succ] at hc0 hc1 hd0
  have hc0 : w.drew.cell? ⟨cb, 0, none⟩ = some (.int .i64 now) := hc0
  have hc1 : w.drew.cell? ⟨cb, 1, none⟩ = some (.map (some bm)) := hc1
  have HM : ∀ w' : World, w'.heap[w.heap.size]? = some (.map es clock) → w'.ownsMap Try.prog 3 (plainElem Try.prog 3) w.heap.size N D := fun w' hw => ⟨es, clock, hw, F, hs, hD⟩
  have HM2 := Lib.hid HM
  have H2 := Lib.hid h2
  clear h hb F hs hD h2 HM
  go_enter Try.func18, Try.ntmps18
  go_wp2_with fail
  go_region_law (go_simp; go_at_call 23; refine (clone_ints HB.out).mono ?_; rintro e w' ⟨rfl, rfl⟩)
  all_goals
    go_wp2_with fail
    go_ret
    have h1 : (w.drew.alloc (.map es clock)).heap.size = w.heap.size + 1 := by simp
    have hb1 : Below w.heap.size w (w.drew.alloc (.map es clock)) := ((Below.refl _ _).drew).alloc (Nat.le_refl _) _
    have hb2 : Below w.heap.size w ((w.drew.alloc (.map es clock)).alloc (.cells #[.int .i64 now, .map (some w.heap.size)] 48)) := hb1.alloc (by rw [h1]; omega) _
    refine ⟨w.heap.size + 1, w.heap.size, rfl, ⟨Blk.new1 w.drew _ _ _, D, HM2.out _ ?_, H2.out⟩, HN.out.below hb2, Nat.le_succ _, Nat.le_refl _, hb2⟩
    refine Eq.trans (Below.heap_alloc (w.drew.alloc (.map es clock)) _ _ (by rw [h1]; omega)) ?_
    exact (MapKept.heap_alloc w.drew _).1
end Go.Proofs.Ytdljbmjjdjbopaa
