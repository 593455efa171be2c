/- The document's own votes to leave views (a number, thirteen views, thirteen seals): New, Put, Drop. -/
import Derived.Test.YtfbipebijelfjaaChgOne
import Derived.Test.YtfbipebijelfjaaRefBallot
namespace Go.Proofs.Ytfbipebijelfjaa
open Go.RowKit
set_option linter.unusedSimpArgs false

def dqL (f : Int) (V S : Nat → Int) : List Value := .int .i64 f :: ((List.range 13).map (fun i => Value.int .i64 (V i)) ++ (List.range 13).map (fun i => Value.int .i64 (S i)))
def dqG (f : Int) (V S : Nat → Int) : Array Value := (dqL f V S).toArray
theorem dqG_size (f : Int) (V S : Nat → Int) : (dqG f V S).size = 27 := by simp [dqG, dqL]
theorem dqG_f (f : Int) (V S : Nat → Int) : (dqG f V S)[0]? = some (.int .i64 f) := rfl
theorem dqG_v (f : Int) (V S : Nat → Int) {k : Nat} (h : k < 13) : (dqG f V S)[1 + k]? = some (.int .i64 (V k)) := by
  unfold dqG dqL
  rw [List.getElem?_toArray, Nat.add_comm, List.getElem?_cons_succ, List.getElem?_append_left (by simpa using h), List.getElem?_map, List.getElem?_range h]
  rfl
theorem dqG_s (f : Int) (V S : Nat → Int) {k : Nat} (h : k < 13) : (dqG f V S)[14 + k]? = some (.int .i64 (S k)) := by
  unfold dqG dqL
  rw [List.getElem?_toArray, show 14 + k = (13 + k) + 1 by omega, List.getElem?_cons_succ, List.getElem?_append_right (by simp), List.length_map, List.length_range, Nat.add_sub_cancel_left, List.getElem?_map, List.getElem?_range h]
  rfl
theorem dqG_out (f : Int) (V S : Nat → Int) {j : Nat} (h : 27 ≤ j) : (dqG f V S)[j]? = none := Array.getElem?_eq_none (by rw [dqG_size]; exact h)
theorem dqG_ext {f : Int} {V S V' S' : Nat → Int} (h : ∀ k, k < 13 → V k = V' k ∧ S k = S' k) : dqG f V S = dqG f V' S' := by
  apply Array.ext_getElem?
  intro j
  by_cases h0 : j = 0
  · subst h0; rfl
  · by_cases h1 : j < 14
    · obtain ⟨k, rfl⟩ : ∃ k, j = 1 + k := ⟨j - 1, by omega⟩
      rw [dqG_v _ _ _ (by omega), dqG_v _ _ _ (by omega), (h k (by omega)).1]
    · by_cases h2 : j < 27
      · obtain ⟨k, rfl⟩ : ∃ k, j = 14 + k := ⟨j - 14, by omega⟩
        rw [dqG_s _ _ _ (by omega), dqG_s _ _ _ (by omega), (h k (by omega)).2]
      · rw [dqG_out _ _ _ (by omega), dqG_out _ _ _ (by omega)]
theorem dqG_setv (f : Int) (V S : Nat → Int) {k : Nat} (h : k < 13) (v : Int) : (dqG f V S).setIfInBounds (1 + k) (.int .i64 v) = dqG f (fun i => if i = k then v else V i) S := by
  apply Array.ext_getElem?
  intro j
  rw [Array.getElem?_setIfInBounds]
  by_cases e : 1 + k = j
  · subst e
    rw [if_pos rfl, if_pos (by rw [dqG_size]; omega), dqG_v _ _ _ h, if_pos rfl]
  · rw [if_neg e]
    by_cases h0 : j = 0
    · subst h0; rfl
    · by_cases h1 : j < 14
      · obtain ⟨i, rfl⟩ : ∃ i, j = 1 + i := ⟨j - 1, by omega⟩
        rw [dqG_v _ _ _ (by omega), dqG_v _ _ _ (by omega), if_neg (by omega)]
      · by_cases h2 : j < 27
        · obtain ⟨i, rfl⟩ : ∃ i, j = 14 + i := ⟨j - 14, by omega⟩
          rw [dqG_s _ _ _ (by omega), dqG_s _ _ _ (by omega)]
        · rw [dqG_out _ _ _ (by omega), dqG_out _ _ _ (by omega)]
theorem dqG_sets (f : Int) (V S : Nat → Int) {k : Nat} (h : k < 13) (s : Int) : (dqG f V S).setIfInBounds (14 + k) (.int .i64 s) = dqG f V (fun i => if i = k then s else S i) := by
  apply Array.ext_getElem?
  intro j
  rw [Array.getElem?_setIfInBounds]
  by_cases e : 14 + k = j
  · subst e
    rw [if_pos rfl, if_pos (by rw [dqG_size]; omega), dqG_s _ _ _ h, if_pos rfl]
  · rw [if_neg e]
    by_cases h0 : j = 0
    · subst h0; rfl
    · by_cases h1 : j < 14
      · obtain ⟨i, rfl⟩ : ∃ i, j = 1 + i := ⟨j - 1, by omega⟩
        rw [dqG_v _ _ _ (by omega), dqG_v _ _ _ (by omega)]
      · by_cases h2 : j < 27
        · obtain ⟨i, rfl⟩ : ∃ i, j = 14 + i := ⟨j - 14, by omega⟩
          rw [dqG_s _ _ _ (by omega), dqG_s _ _ _ (by omega), if_neg (by omega)]
        · rw [dqG_out _ _ _ (by omega), dqG_out _ _ _ (by omega)]
def vD (L : List Cw) (k : Nat) : Int := match atC L (k : Int) with | some p => p.1 | none => -1
def sD (L : List Cw) (k : Nat) : Int := match atC L (k : Int) with | some p => p.2 | none => 0
def dqC (f : Int) (L : List Cw) : Array Value := dqG f (vD L) (sD L)
theorem dqC_put {f : Int} {L : List Cw} {k : Nat} (hk : k < L.length) (h13 : k < 13) (v s : Int) : ((dqC f L).setIfInBounds (1 + k) (.int .i64 v)).setIfInBounds (14 + k) (.int .i64 s) = dqC f (L.set k (some (v, s))) := by
  unfold dqC
  rw [dqG_setv _ _ _ h13, dqG_sets _ _ _ h13]
  refine dqG_ext fun i _ => ?_
  unfold vD sD
  rw [atC_set hk]
  by_cases e : i = k
  · subst e; rw [if_pos rfl, if_pos rfl, if_pos rfl]; exact ⟨rfl, rfl⟩
  · rw [if_neg e, if_neg e, if_neg (by omega)]; exact ⟨rfl, rfl⟩
theorem dqC_clear {f : Int} {L : List Cw} {k : Nat} (hk : k < L.length) (h13 : k < 13) : ((dqC f L).setIfInBounds (1 + k) (.int .i64 (-1))).setIfInBounds (14 + k) (.int .i64 0) = dqC f (L.set k none) := by
  unfold dqC
  rw [dqG_setv _ _ _ h13, dqG_sets _ _ _ h13]
  refine dqG_ext fun i _ => ?_
  unfold vD sD
  rw [atC_set hk]
  by_cases e : i = k
  · subst e; rw [if_pos rfl, if_pos rfl, if_pos rfl]; exact ⟨rfl, rfl⟩
  · rw [if_neg e, if_neg e, if_neg (by omega)]; exact ⟨rfl, rfl⟩
/-- Two stores, in either order. -/
theorem dq_two {w : World} {cb k : Nat} {f : Int} {L L' : List Cw} {v s : Value} (h : Blk w cb 48 (dqC f L)) (he : ((dqC f L).setIfInBounds (1 + k) v).setIfInBounds (14 + k) s = dqC f L') :
    Blk ((w.setCell ⟨cb, 1 + k, none⟩ v).setCell ⟨cb, 14 + k, none⟩ s) cb 48 (dqC f L') ∧ Blk ((w.setCell ⟨cb, 14 + k, none⟩ s).setCell ⟨cb, 1 + k, none⟩ v) cb 48 (dqC f L') := by
  have h1 := (h.set_ (1 + k) v).set_ (14 + k) s
  have h2 := (h.set_ (14 + k) s).set_ (1 + k) v
  rw [he] at h1
  rw [Array.setIfInBounds_comm _ _ (by omega), he] at h2
  exact ⟨h1, h2⟩
set_option maxHeartbeats 1000000 in
theorem dnew_any {f : Int} {n : Nat} (w : World) : Calls Try.prog 15 #[.int .i64 f] w fun e w' => ∃ cb, e = .returned (.pointer (some ⟨cb, 0, none⟩)) ∧ Blk w' cb 48 (dqC f (List.replicate n none)) ∧ w.heap.size ≤ cb ∧ Below w.heap.size w w' := by
  have HB := Lib.hid (Blk.new w 48 (dqG f (fun _ => 0) (fun _ => 0)))
  have HL := Lib.hid (show Below w.heap.size w (w.alloc (.cells (dqG f (fun _ => 0) (fun _ => 0)) 48)) from (Below.refl _ _).alloc (Nat.le_refl _) _)
  have HE := Lib.hid (show dqG f (fun _ => 0) (fun _ => 0) = #[.int .i64 f, .int .i64 0, .int .i64 0, .int .i64 0, .int .i64 0, .int .i64 0, .int .i64 0, .int .i64 0, .int .i64 0, .int .i64 0, .int .i64 0, .int .i64 0, .int .i64 0, .int .i64 0, .int .i64 0, .int .i64 0, .int .i64 0, .int .i64 0, .int .i64 0, .int .i64 0, .int .i64 0, .int .i64 0, .int .i64 0, .int .i64 0, .int .i64 0, .int .i64 0, .int .i64 0] from rfl)
  have HFin := Lib.hid (show dqG f (fun i => if i < 13 then -1 else 0) (fun _ => 0) = dqC f (List.replicate n none) from dqG_ext fun k hk => by
    unfold vD sD
    rw [if_pos hk]
    have : atC (List.replicate n none) (k : Int) = none := by
      unfold atC
      split
      · rw [List.getD_eq_getElem?_getD, List.getElem?_replicate]
        split <;> rfl
      · rfl
    rw [this]
    exact ⟨rfl, rfl⟩)
  have HStep := Lib.hid (fun (k : Nat) (hk : k < 13) => show (dqG f (fun i => if i < k then -1 else 0) (fun _ => 0)).setIfInBounds (1 + k) (.int .i64 (-1)) = dqG f (fun i => if i < k + 1 then -1 else 0) (fun _ => 0) from by
    rw [dqG_setv _ _ _ hk]
    refine dqG_ext fun i _ => ⟨?_, rfl⟩
    show (if i = k then (-1 : Int) else if i < k then -1 else 0) = if i < k + 1 then -1 else 0
    by_cases e : i = k
    · rw [if_pos e, if_pos (by omega)]
    · rw [if_neg e]
      by_cases e2 : i < k
      · rw [if_pos e2, if_pos (by omega)]
      · rw [if_neg e2, if_neg (by omega)])
  rw [HE.out] at HB HL
  have HZ := Lib.hid (show dqG f (fun i => if i < 0 then -1 else 0) (fun _ => 0) = dqG f (fun _ => 0) (fun _ => 0) from dqG_ext fun i _ => ⟨rfl, rfl⟩)
  have HSt := Lib.hid (HZ.out.trans HE.out)
  clear HE HZ
  go_enter Try.func15, Try.ntmps15
  go_wp2_with fail
  go_loopw [4] (fun x wr => ∃ (k : Nat), x = .int .i64 k ∧ k ≤ 13 ∧ Hid (Blk wr w.heap.size 48 (dqG f (fun i => if i < k then -1 else 0) (fun _ => 0))) ∧ Hid (Below w.heap.size w wr)) (fun x _ => 13 - (intOf x).toNat)
  case atStart => exact ⟨0, rfl, Nat.zero_le _, (by rw [HSt.out]; exact HB), HL⟩
  case round =>
    clear HB HL
    obtain ⟨k, rfl, hk, HB, HL⟩ := hrel
    by_cases hlt : k < 13
    · have hc := HB.out.cell (1 + k)
      rw [dqG_v _ _ _ hlt] at hc
      have hfz := HB.out.frozen (1 + k)
      have hb2 := HB.out.set_ (1 + k) (.int .i64 (-1))
      rw [HStep.out k hlt] at hb2
      have HB2 := Lib.hid hb2
      have HL2 := Lib.hid (HL.out.setCell (p := ⟨w.heap.size, 1 + k, none⟩) (Nat.le_refl _) (.int .i64 (-1)))
      obtain ⟨x0, hx0⟩ : ∃ y, (if k < k then (-1 : Int) else 0) = y := ⟨_, rfl⟩
      rw [hx0] at hc
      clear hb2 hx0
      go_wp2_with fail
      go_roundw
      case rel => exact ⟨k + 1, by go_num, by omega, HB2, HL2⟩
      case measure => simp [intOf]; omega
    · obtain rfl : k = 13 := by omega
      have HB3 := Lib.hid HB.out
      rw [HFin.out] at HB3
      go_wp2_with fail
      go_ret
      exact ⟨_, rfl, HB3.out, Nat.le_refl _, HL.out⟩
end Go.Proofs.Ytfbipebijelfjaa
