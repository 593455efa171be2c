/- Package store: Same, Clone. -/
import Derived.Test.YtpjcedilkahpiaaStoreSum
import Derived.Shelf.SlMaps.Clone
namespace Go.Proofs.Ytpjcedilkahpiaa
open Go.RowKit Go.Maps

/-- The keys that are no longer to come have the same value there. -/
structure Eqs (w : World) (b1 r N : Nat) (D : DataW Unit) (V U : Kv) (cnt : Nat) (wr : World) : Prop where
  ex : ∃ left, wr.ranges Try.prog 3 (plainElem Try.prog 3) b1 r N D left cnt ∧ ∀ q v, V q = some v → left (.int .i64 q) = false → U q = some v
  low : Below w.heap.size w wr
theorem Eqs.next {V U : Kv} {left : Lit → Bool} {x c : Int} (h : ∀ q v, V q = some v → left (.int .i64 q) = false → U q = some v) (hx : fit x) (hV : V x = some c) (hU : U x = some c) :
    ∀ q v, V q = some v → (fun z => left z && !z.sameKey (.int .i64 x)) (.int .i64 q) = false → U q = some v := fun q v hq hl => by
  have hl : (left (.int .i64 q) && !(Lit.int .i64 q).sameKey (.int .i64 x)) = false := hl
  rw [kstruck left hx] at hl
  by_cases e : q = x
  · subst e
    rw [hV] at hq
    cases hq
    exact hU
  · rw [if_neg e] at hl
    exact h q v hq hl
theorem Eqs.start {D : DataW Unit} {V U : Kv} (h : KTells D V) (ho : V.Ok) : ∀ q v, V q = some v → Maps.has D (.int .i64 q) = false → U q = some v := fun q v hq hl => by
  rw [h.has q (kfit (ho q v hq).1), hq] at hl
  cases hl
set_option maxHeartbeats 2000000 in
set_option maxRecDepth 100000 in
theorem equal_any {w : World} {sb bm N sb2 bm2 N2 : Nat} {V U : Kv} (h : St w sb bm N V) (h2 : St w sb2 bm2 N2 U) :
    Calls Try.prog 43 #[.map (some bm), .map (some bm2)] w fun e w' => ∃ b, e = .returned (.bool b) ∧ (b = true ↔ V = U) ∧ Below w.heap.size w w' := by
  have HC := Lib.hid h
  have HC2 := Lib.hid h2
  obtain ⟨D, hD, hT⟩ := h.map
  obtain ⟨D2, hD2, hT2⟩ := h2.map
  have l1 := fun ty => hD.len Try.underlying78 ty
  have l2 := fun ty => hD2.len Try.underlying78 ty
  rw [hT.size] at l1
  rw [hT2.size] at l2
  have HD := Lib.hid hD
  have HT := Lib.hid hT
  clear h h2 hD hT hD2 hT2
  by_cases hsz : V.all.length = U.all.length
  · have HS := Lib.hid hsz
    rw [← hsz] at l2
    obtain ⟨n1, hn1⟩ : ∃ n, V.all.length = n := ⟨_, rfl⟩
    rw [hn1] at l1 l2
    clear hsz hn1
    go_enter Try.func43, Try.ntmps43
    go_wp2_with (first
      | (at_range; refine wpList_range_own _ rfl _ 78 rfl 3 3 kint_law Try.underlying78 _ bm N D rfl HD.out ?_; intro w0 hrg0 hg0 hs0)
      | fail)
    go_frame
    have HS0 := Lib.hid (show Eqs w bm w.heap.size N D V U (Maps.size D) w0 from ⟨⟨_, hrg0, Eqs.start HT.out HC.out.ok⟩, (Below.refl _ _).grown hg0 (Nat.le_refl _) (fun k hk => by cases hk)⟩)
    clear hrg0 hg0 hs0 l1 l2
    go_loopw [16] (fun _ wr => ∃ cnt : Nat, Hid (Eqs w bm w.heap.size N D V U cnt wr)) (fun _ wr => wr.rangeLeft bm w.heap.size)
    case atStart => exact ⟨_, HS0⟩
    case round =>
      obtain ⟨cnt, HS1⟩ := hrel
      obtain ⟨left, hrg, hagree⟩ := HS1.out.ex
      have HLow := Lib.hid HS1.out.low
      have HRg := Lib.hid hrg
      have HAg := Lib.hid hagree
      clear HS1 hrg hagree
      go_wp2_with (first
        | (at_next; refine wpList_next_ranges_ii _ rfl _ rfl 3 3 .i64 .i64 kint_law Try.underlying3 Try.underlying3 bm w.heap.size N _ _ _ rfl HRg.out ?_ ?_)
        | fail)
      · intro hz hl0
        have HE := Lib.hid (show V = U from Kv.sub_eq HC.out.ok HC2.out.ok (fun q v hq => HAg.out q v hq (hl0 _)) HS.out)
        clear HRg hl0 hz
        go_wp2_with fail
        go_ret
        exact ⟨true, rfl, ⟨fun _ => HE.out, fun _ => rfl⟩, HLow.out⟩
      · intro x c w1 cnt1 hwx hwc hlx hat hrg1 hlt hg1 hs1 hen
        have HB1 := Lib.hid (HLow.out.grown hg1 HLow.out.size (fun k hk => by cases hk; exact Nat.le_refl _))
        have HRg1 := Lib.hid hrg1
        have hV := HT.out.is hwx hat
        have HV := Lib.hid hV
        have HX := Lib.hid hwx
        have hlk := (HC2.out.below HB1.out).look (p := x) hwx
        have HM1 := Lib.hid (show w1.rangeLeft bm w.heap.size < wr.rangeLeft bm w.heap.size by rw [HRg1.out.left_eq, HRg.out.left_eq]; exact hlt)
        clear hs1 hg1 hat hrg1 hwx hlx hwc hV
        cases hU : U x with
        | none =>
          have HN := Lib.hid (show V ≠ U from fun e => by have := HV.out; rw [e, hU] at this; cases this)
          rw [hU] at hlk
          simp only [Option.isSome_none] at hlk
          clear hU
          go_wp2_with fail
          go_ret
          exact ⟨false, rfl, ⟨fun h => by (cases h), fun h => absurd h HN.out⟩, HB1.out⟩
        | some d =>
          have hval : U.val x = d := by unfold Kv.val; rw [hU]; rfl
          rw [hU, hval] at hlk
          simp only [Option.isSome_some] at hlk
          by_cases e : c = d
          · subst e
            have HS3 := Lib.hid (show Eqs w bm w.heap.size N D V U cnt1 w1 from ⟨⟨_, HRg1.out, Eqs.next HAg.out HX.out HV.out hU⟩, HB1.out⟩)
            clear hU hval
            go_wp2_with fail
            go_roundw
            case rel => exact ⟨_, HS3⟩
            case measure => exact HM1.out
          · have HN := Lib.hid (show V ≠ U from fun e' => by have h1 := HV.out; rw [e', hU] at h1; injection h1 with h1; exact e h1.symm)
            have g1 : (c != d) = true := by simpa using e
            have g2 : (c == d) = false := by simpa using e
            clear hU hval
            go_wp2_with fail
            go_ret
            exact ⟨false, rfl, ⟨fun h => by (cases h), fun h => absurd h HN.out⟩, HB1.out⟩
  · have HN := Lib.hid (show V ≠ U from fun e => hsz (by rw [e]))
    obtain ⟨n1, hn1⟩ : ∃ n, V.all.length = n := ⟨_, rfl⟩
    obtain ⟨n2, hn2⟩ : ∃ n, U.all.length = n := ⟨_, rfl⟩
    rw [hn1] at l1 hsz
    rw [hn2] at l2 hsz
    have hne : ((n1 : Int) != (n2 : Int)) = true := by simp; omega
    clear hn1 hn2
    go_enter Try.func43, Try.ntmps43
    go_wp2
    go_ret
    exact ⟨false, rfl, ⟨fun h => by (cases h), fun h => absurd h HN.out⟩, Below.refl _ _⟩
set_option maxHeartbeats 2000000 in
theorem ssame_any {w : World} {sb bm N sb2 bm2 N2 : Nat} {V U : Kv} (h : St w sb bm N V) (h2 : St w sb2 bm2 N2 U) :
    Calls Try.prog 22 #[.pointer (some ⟨sb, 0, none⟩), .pointer (some ⟨sb2, 0, none⟩)] w fun e w' => ∃ b, e = .returned (.bool b) ∧ (b = true ↔ V = U) ∧ Below w.heap.size w w' := by
  have KE := Lib.hid (equal_any (h.drewN 1) (h2.drewN 1))
  have hc0 := (h.drewN 1).blk.cell 0
  have hc1 := (h2.drewN 1).blk.cell 0
  simp only [List.getElem?_toArray, List.getElem?_cons_zero] at hc0 hc1
  have hc0 : w.drew.cell? ⟨sb, 0, none⟩ = some (.map (some bm)) := hc0
  have hc1 : w.drew.cell? ⟨sb2, 0, none⟩ = some (.map (some bm2)) := hc1
  clear h h2
  go_enter Try.func22, Try.ntmps22
  go_wp2_with fail
  go_region_law (go_simp; go_at_call 43; refine KE.out.mono ?_; rintro e w' ⟨b, rfl, hb, hB⟩)
  all_goals
    go_wp2_with fail
    go_ret
    exact ⟨b, rfl, hb, (show Below w.heap.size w w.drew from (Below.refl _ _).drew).trans hB⟩

set_option maxRecDepth 100000 in
set_option maxHeartbeats 2000000 in
theorem sclone_ints {w : World} {b : Nat} {es : Array MapEntry} {clock : Nat} (hb : w.heap[b]? = some (.map es clock)) :
    Calls Try.prog 57 #[.map (some b)] w fun e w' => e = .returned (.map (some w.heap.size)) ∧ w' = w.alloc (.map es clock) := by
  have hq := fun w => run_eql_map_nil_sl (P := Try.prog) w 78 _ _ (some b) Try.underlying78
  go_enter Try.func57, Try.ntmps57
  go_wp2
  rw [run_callFunc_extern Try.func59 (by kernel_rfl) (by kernel_rfl) (by kernel_rfl) (e := Extern.MapsClone.clone) (by kernel_rfl), run_maps_clone_sl w 78 hb]
  simp only [Result.andThen]
  rw [Oper.upon_value]
  go_wp2
  rw [run_typeAssert_map_sl _ 78 20 _ _ _ Try.underlying78]
  simp only [Result.andThen]
  rw [Oper.upon_value]
  go_wp2
  go_ret
  exact ⟨rfl, rfl⟩
set_option maxHeartbeats 1000000 in
theorem sclone_any {w : World} {sb bm N : Nat} {V : Kv} (h : St w sb bm N V) :
    Calls Try.prog 42 #[.pointer (some ⟨sb, 0, none⟩)] w fun e w' => ∃ sb2 bm2, e = .returned (.pointer (some ⟨sb2, 0, none⟩)) ∧ St w' sb2 bm2 N V ∧ w.heap.size ≤ sb2 ∧ w.heap.size ≤ bm2 ∧ Below w.heap.size w w' := by
  obtain ⟨D, ⟨es, clock, hb, F, hs, hD⟩, h2⟩ := h.map
  have HB := Lib.hid hb
  have hc0 := h.blk.cell 0
  simp only [List.getElem?_toArray, List.getElem?_cons_zero] at hc0
  have HM : ∀ w' : World, w'.heap[w.heap.size]? = some (.map es clock) → w'.ownsMap Try.prog 3 (plainElem Try.prog 3) w.heap.size N D := fun w' hw => ⟨es, clock, hw, F, hs, hD⟩
  have HM2 := Lib.hid HM
  have H2 := Lib.hid h2
  have HO := Lib.hid h.ok
  clear h hb F hs hD h2 HM
  go_enter Try.func42, Try.ntmps42
  go_wp2_with fail
  refine (sclone_ints HB.out).mono ?_
  rintro e w' ⟨rfl, rfl⟩
  go_wp2_with fail
  go_ret
  have h1 : (w.alloc (.map es clock)).heap.size = w.heap.size + 1 := by simp
  have hb1 : Below w.heap.size w (w.alloc (.map es clock)) := (Below.refl _ _).alloc (Nat.le_refl _) _
  have hb2 : Below w.heap.size w ((w.alloc (.map es clock)).alloc (.cells #[.map (some w.heap.size)] 80)) := hb1.alloc (by rw [h1]; omega) _
  refine ⟨w.heap.size + 1, w.heap.size, rfl, ⟨Blk.new1 w _ _ _, ⟨D, HM2.out _ ?_, H2.out⟩, HO.out⟩, Nat.le_succ _, Nat.le_refl _, hb2⟩
  refine Eq.trans (Below.heap_alloc (w.alloc (.map es clock)) _ _ (by rw [h1]; omega)) ?_
  exact (MapKept.heap_alloc w _).1
end Go.Proofs.Ytpjcedilkahpiaa
