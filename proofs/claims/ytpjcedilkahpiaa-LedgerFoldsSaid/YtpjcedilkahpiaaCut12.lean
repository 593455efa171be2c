/- The law's own cut: at most twenty batches of at most eight requests each. -/
import Derived.Test.YtpjcedilkahpiaaOpen12
import Derived.Test.YtpjcedilkahpiaaLedRun
namespace Go.Proofs.Ytpjcedilkahpiaa
open Go.RowKit
set_option linter.unusedSimpArgs false

def Bt.cut (x : Bt) : Bt := { x with l := x.l.take 8 }
def cutS (l : List Bt) : List Bt := (l.take 20).map Bt.cut
theorem Bt.cut_len (x : Bt) : x.cut.l.length = min x.l.length 8 := by show (x.l.take 8).length = _; rw [List.length_take]; omega
theorem Has.reqs_take {w : World} {B : Nat} {A : Option Addr} {l : List Rq} (h : Has w B A (reqCells l)) (k : Nat) : Has w B A (reqCells (l.take k)) := fun j u hj => by
  refine h j u ?_
  have e : reqCells l = reqCells (l.take k) ++ reqCells (l.drop k) := by
    unfold reqCells
    rw [← List.flatMap_append, List.take_append_drop]
  rw [e, List.getElem?_append_left (List.getElem?_eq_some_iff.1 hj).1]
  exact hj
theorem batCells_len (l : List Bt) : (l.flatMap Bt.cells).length = l.length := by
  have := flatMap_len (s := 1) (f := Bt.cells) (fun _ => rfl) l
  omega
theorem batCells_one (l : List Bt) : ∀ u ∈ l.flatMap Bt.cells, u.oneCell' = true := by
  intro u hu
  obtain ⟨e, _, h⟩ := List.mem_flatMap.1 hu
  simp only [Bt.cells, List.mem_cons, List.not_mem_nil, or_false] at h
  subst h
  rfl
/-- A row of batches that the call owns, what they hold read below B. -/
structure HasBs (w : World) (B : Nat) (l : List Bt) : Prop where
  has : ∀ x ∈ l, Has w B x.A (reqCells x.l)
  cap : ∀ x ∈ l, x.l.length ≤ x.c ∧ (x.A = none → x.c = 0)
theorem HasBs.below {w w' : World} {B : Nat} {l : List Bt} (h : HasBs w B l) {B' : Nat} (hb : Below B' w w') (hB : B ≤ B') : HasBs w' B l := ⟨fun x hx => (h.has x hx).below hb hB, h.cap⟩
theorem HasBs.mono {w : World} {B B' : Nat} {l : List Bt} (h : HasBs w B l) (hB : B ≤ B') : HasBs w B' l := ⟨fun x hx => (h.has x hx).more hB, h.cap⟩
/-- While the batches are gone through. -/
structure RCut (w : World) (l : List Bt) (k : Nat) (v : Value) (wr : World) : Prop where
  row : wr.ownsRow w.heap.size 42 1 v k ((cutS (l.take k)).flatMap Bt.cells)
  low : Below w.heap.size w wr
theorem info_reqs : (Try.prog.info? 42).map (fun i => (i.zero, i.size, i.bytes)) = some (some (.slice none 0 0), 1, 24) := by kernel_rfl
theorem cut_next {l : List Bt} {k : Nat} (h : k < l.length) (h20 : k < 20) : (cutS (l.take (k + 1))).flatMap Bt.cells = (cutS (l.take k)).flatMap Bt.cells ++ l[k].cut.cells := by
  unfold cutS
  rw [List.take_take, List.take_take, Nat.min_eq_right (show k + 1 ≤ 20 by omega), Nat.min_eq_right (show k ≤ 20 by omega), list_more h, List.map_append, List.flatMap_append]
  simp
set_option maxRecDepth 100000 in
set_option maxHeartbeats 2000000 in
theorem cut_any {w : World} {A : Option Addr} {c : Nat} {l : List Bt} (h : IsBats w A l c) (u : World) (hu : Below w.heap.size w u) :
    Calls Try.prog 14 #[.slice A l.length c] u fun e w' => ∃ v, e = .returned v ∧ w'.ownsRow u.heap.size 42 1 v (cutS l).length ((cutS l).flatMap Bt.cells) ∧ Below u.heap.size u w' := by
  obtain ⟨i0, hi0, hx0, hx1, hx2⟩ := info_parts info_reqs
  have HA := Lib.hid h
  have HU := Lib.hid hu
  obtain ⟨n, hn⟩ : ∃ n, l.length = n := ⟨_, rfl⟩
  have HN := Lib.hid hn
  have HS0 := Lib.hid (show RCut u l 0 (.slice none 0 0) u from ⟨World.ownsRow_nil _ _ _ _, Below.refl _ _⟩)
  rw [hn]
  clear h hu hn
  go_enter Try.func14, Try.ntmps14
  go_wp2_with fail
  go_loopw [3, 4] (fun v x wr => ∃ k : Nat, x = .int .i64 k ∧ k ≤ n ∧ k ≤ 20 ∧ Hid (RCut u l k v wr)) (fun _ x _ => 20 - (intOf x).toNat)
  case atStart => exact ⟨0, rfl, Nat.zero_le _, Nat.zero_le _, HS0⟩
  case round =>
    obtain ⟨k, rfl, hk, hk2, HS⟩ := hrel
    obtain ⟨A1, c1, rfl, q1, q2⟩ := own_slice HS.out.row
    clear q1 q2
    by_cases hlt : k < n ∧ k < 20
    · obtain ⟨hlt1, hlt2⟩ := hlt
      have hkl : k < l.length := by rw [HN.out]; exact hlt1
      have hA1 := (HA.out.has.below HU.out (Nat.le_refl _)).below (HS.out.low.mono HU.out.size) (Nat.le_refl _)
      obtain ⟨ad, rfl, _, c0⟩ := hA1.bat hkl
      have hcap := (HA.out.came _ (List.getElem_mem hkl)).le
      obtain ⟨x, hx⟩ : ∃ x, l[k] = x := ⟨_, rfl⟩
      rw [hx] at c0 hcap
      have hcell : wr.drew.cell? (ad.add k) = some (.slice x.A x.l.length x.c) := c0
      obtain ⟨m, hm⟩ : ∃ m, min x.l.length 8 = m := ⟨_, rfl⟩
      obtain ⟨p, hp⟩ : ∃ p, x.l.length = p := ⟨_, rfl⟩
      rw [hp] at hcell hcap hm
      have hmc : m ≤ x.c := by omega
      have hmn : min (p : Int) 8 = (m : Int) := by omega
      have hb1 : Below wr.heap.size wr (wr.drew.alloc (.cells #[.slice x.A m x.c] 42)) := ((Below.refl wr.heap.size wr).drew).alloc (Nat.le_refl _) _
      have HB1 := Lib.hid hb1
      have HO := Lib.hid (below_own HS.out.row hb1 (Nat.le_refl _))
      have HNw := Lib.hid (show Has (wr.drew.alloc (.cells #[.slice x.A m x.c] 42)) (wr.heap.size + 1) (some ⟨wr.heap.size, 0, none⟩) [.slice x.A m x.c] from Has.fresh wr.drew #[.slice x.A m x.c] 42)
      have HCut := Lib.hid (show l[k].cut.cells = [.slice x.A m x.c] from by rw [hx]; show [Value.slice x.A (x.l.take 8).length x.c] = _; rw [List.length_take, hp, Nat.min_comm, hm])
      have hM1 : k + 1 ≤ maxLen := by unfold maxLen; omega
      have hM2 : (k + 1) * 24 ≤ 140737488355328 := by omega
      have hO := HO.out
      have hNw := HNw.out
      have hOne : ∀ u ∈ [Value.slice x.A m x.c], u.oneCell' = true := by simp; rfl
      clear c0 hA1 hx hp hb1
      go_wp2_with fail
      go_region_law (refine step_apps rfl (.tmp 15) (.tmp 27) 22 rfl u.heap.size 42 i0 (.slice none 0 0) 1 24 Try.underlying22 hi0 hx0 hx1 hx2 rfl (by decide) _ _ _ rfl hO _ (some ⟨wr.heap.size, 0, none⟩) 1 1 [.slice x.A m x.c] rfl rfl hNw (fun h => nomatch h) hOne hM1 hM2 (by have := HS.out.low.size; simp; omega) ?_; intro vb w5 hob hgb hlb)
      all_goals
        have HS5 := Lib.hid (show RCut u l (k + 1) vb w5 from ⟨by rw [cut_next hkl hlt2, HCut.out]; exact hob, (HS.out.low.trans (HB1.out.mono HS.out.low.size)).grown hgb (by have := HS.out.low.size; have := HB1.out.size; omega) (fun j hj => (HS.out.row.lt j hj).1)⟩)
        clear hob hgb hlb
        go_wp2_with fail
        go_roundw
        case rel => exact ⟨k + 1, by go_num, by omega, by omega, HS5⟩
        case measure => simp [intOf]; omega
    · have hl : cutS (l.take k) = cutS l := by
        unfold cutS
        rw [List.take_take]
        have := HN.out
        by_cases h20 : k < 20
        · rw [Nat.min_eq_right (by omega), List.take_of_length_le (by omega), List.take_of_length_le (by omega)]
        · rw [show min 20 k = 20 from Nat.min_eq_left (by omega)]
      have hlen : (cutS l).length = k := by
        rw [← hl]
        unfold cutS
        rw [List.length_map, List.length_take, List.length_take]
        have := HN.out
        omega
      have hrow := HS.out.row
      rw [hl] at hrow
      have HR := Lib.hid hrow
      have HLow := Lib.hid HS.out.low
      have HLn := Lib.hid hlen
      clear HS hl hlen hrow
      by_cases h1 : k < n
      · go_wp2_with fail
        go_ret
        exact ⟨_, rfl, by rw [HLn.out]; exact HR.out, HLow.out⟩
      · go_wp2_with fail
        go_ret
        exact ⟨_, rfl, by rw [HLn.out]; exact HR.out, HLow.out⟩
theorem IsBats.cut {w : World} {A : Option Addr} {c : Nat} {l : List Bt} (h : IsBats w A l c) : HasBs w w.heap.size (cutS l) := by
  have hmem : ∀ x ∈ cutS l, ∃ y ∈ l, x = y.cut := fun x hx => by
    obtain ⟨y, hy, rfl⟩ := List.mem_map.1 hx
    exact ⟨y, List.mem_of_mem_take hy, rfl⟩
  refine ⟨fun x hx => ?_, fun x hx => ?_⟩
  · obtain ⟨y, hy, rfl⟩ := hmem x hx
    exact (h.came y hy).has.reqs_take 8
  · obtain ⟨y, hy, rfl⟩ := hmem x hx
    refine ⟨?_, (h.came y hy).nil⟩
    have := (h.came y hy).le
    rw [Bt.cut_len]
    show min y.l.length 8 ≤ y.c
    omega
/-- All requests of some batches, in order. -/
def allS (l : List Bt) : List Rq := l.flatMap Bt.l
theorem allS_cut_len (l : List Bt) : (allS (cutS l)).length ≤ 160 := by
  have h1 : ∀ m : List Bt, (allS (m.map Bt.cut)).length ≤ m.length * 8 := fun m => by
    induction m with
    | nil => exact Nat.le_refl _
    | cons x m ih =>
      show (x.cut.l ++ allS (m.map Bt.cut)).length ≤ (m.length + 1) * 8
      rw [List.length_append, Bt.cut_len]
      omega
  have h2 := h1 (l.take 20)
  have h3 : (l.take 20).length ≤ 20 := by rw [List.length_take]; omega
  unfold cutS
  omega
theorem allS_take {l : List Bt} {k : Nat} (h : k < l.length) : allS (l.take (k + 1)) = allS (l.take k) ++ l[k].l := by
  unfold allS
  rw [list_more h, List.flatMap_append]
  simp
theorem allS_le {l : List Bt} (k : Nat) : (allS (l.take k)).length ≤ (allS l).length := by
  have : allS l = allS (l.take k) ++ allS (l.drop k) := by unfold allS; rw [← List.flatMap_append, List.take_append_drop]
  rw [this, List.length_append]
  omega
end Go.Proofs.Ytpjcedilkahpiaa
