/- The document's own votes to leave views: Put, Drop, Enough. -/
import Derived.Test.YtfbipebijelfjaaChd1
import Derived.Deep.DeepCutAuto
namespace Go.Proofs.Ytfbipebijelfjaa
open Go.RowKit
set_option linter.unusedSimpArgs false

section
variable {w : World} {cb n : Nat} {f : Int} {L : List Cw}
theorem vD_none {L : List Cw} {k : Nat} (h : atC L (k : Int) = none) : vD L k = -1 := by unfold vD; rw [h]
theorem vD_some {L : List Cw} {k : Nat} {p : Int × Int} (h : atC L (k : Int) = some p) : vD L k = p.1 := by unfold vD; rw [h]
theorem sD_some {L : List Cw} {k : Nat} {p : Int × Int} (h : atC L (k : Int) = some p) : sD L k = p.2 := by unfold sD; rw [h]
def DPost (w : World) (cb : Nat) (f : Int) (r : Bool × List Cw) (e : Ending) (w' : World) : Prop := e = .returned (.bool r.1) ∧ Blk w' cb 48 (dqC f r.2) ∧ Turn (fun j => j = cb) w w'
set_option maxHeartbeats 1000000 in
theorem dput_any (h : Blk w cb 48 (dqC f L)) (f1 : 1 ≤ f) (f4 : f ≤ 4) (hn : (L.length : Int) = 3 * f + 1) (k vw sg : Int) : Calls Try.prog 24 #[.pointer (some ⟨cb, 0, none⟩), .int .i64 k, .int .i64 vw, .int .i64 sg] w (DPost w cb f (ptC L k vw sg)) := by
  have HB := Lib.hid h
  have c0 := h.cell 0
  rw [show (dqC f L)[0]? = _ from dqG_f _ _ _] at c0
  obtain ⟨n, hn'⟩ : ∃ n, L.length = n := ⟨_, rfl⟩
  have HL := Lib.hid hn'
  rw [hn'] at hn
  have HN := Lib.hid (fun (w : World) => (show Calls Try.prog 9 #[.int .i64 f] w fun e w' => e = .returned (.int .i64 (n : Int)) ∧ w = w' from by
    have := rnodes_any f w
    rwa [nodesS_in (by omega) (by omega), ← hn] at this))
  have HS := Lib.hid (show DPost w cb f (false, L) (.returned (.bool false)) w from ⟨rfl, h, Turn.refl _ _⟩)
  by_cases k0 : 0 ≤ k
  · obtain ⟨m, rfl⟩ := Int.eq_ofNat_of_zero_le k0
    by_cases km : m < n
    · have hin : inC L (m : Int) := ⟨by omega, by rw [hn']; omega⟩
      have gk : decide ((m : Int) < 0) = false := decide_eq_false (by omega)
      have gk2 : decide ((n : Int) ≤ (m : Int)) = false := decide_eq_false (by omega)
      have gk3 : decide (n ≤ m) = false := decide_eq_false (by omega)
      have m13 : m < 13 := by omega
      have hcv := h.cell (1 + m)
      rw [show (dqC f L)[1 + m]? = _ from dqG_v _ _ _ m13] at hcv
      have hcs := h.cell (14 + m)
      rw [show (dqC f L)[14 + m]? = _ from dqG_s _ _ _ m13] at hcs
      by_cases v0 : 0 ≤ vw
      · by_cases v1 : vw < 12
        · have g0 : decide (vw < 0) = false := decide_eq_false (by omega)
          have g1 : decide (12 ≤ vw) = false := decide_eq_false (by omega)
          have hle : (takesC L (m : Int) vw ↔ ¬ vw ≤ vD L m) := by
            unfold takesC
            cases ha : atC L (m : Int) with
            | none => rw [vD_none ha]; constructor
                      · intro _; omega
                      · intro _; exact ⟨hin, v0, v1, fun x hx => by cases hx⟩
            | some p => rw [vD_some ha]; constructor
                        · intro e; have := e.2.2.2 p rfl; omega
                        · intro e; exact ⟨hin, v0, v1, fun x hx => by injection hx with hx; subst hx; omega⟩
          by_cases ht : takesC L (m : Int) vw
          · rw [ptC_good ht]
            have gv : decide (vw ≤ vD L m) = false := decide_eq_false (hle.1 ht)
            have HT := Lib.hid (dq_two h (dqC_put (f := f) (by rw [hn']; exact km) m13 vw sg))
            have HB1 := Lib.hid (h.set_ (1 + m) (.int .i64 vw))
            have HB2 := Lib.hid (h.set_ (14 + m) (.int .i64 sg))
            have fa : w.drew.frozen? ⟨cb, 1 + m, none⟩ = false := h.frozen (1 + m)
            have fb : w.drew.frozen? ⟨cb, 14 + m, none⟩ = false := h.frozen (14 + m)
            obtain ⟨xv, hxv⟩ : ∃ y, vD L m = y := ⟨_, rfl⟩
            obtain ⟨xs, hxs⟩ : ∃ y, sD L m = y := ⟨_, rfl⟩
            rw [hxv] at gv hcv
            rw [hxs] at hcs
            have d1 : w.drew.cell? ⟨cb, 1 + m, none⟩ = some (.int .i64 xv) := hcv
            have d2 : w.drew.cell? ⟨cb, 14 + m, none⟩ = some (.int .i64 xs) := hcs
            have d3 : (w.setCell ⟨cb, 14 + m, none⟩ (.int .i64 sg)).drew.cell? ⟨cb, 1 + m, none⟩ = some (.int .i64 xv) := by
              show (w.setCell ⟨cb, 14 + m, none⟩ (.int .i64 sg)).cell? ⟨cb, 1 + m, none⟩ = _
              rw [HB2.out.cell, Array.getElem?_setIfInBounds, if_neg (by omega), ← h.cell]; exact hcv
            have d4 : (w.setCell ⟨cb, 1 + m, none⟩ (.int .i64 vw)).drew.cell? ⟨cb, 14 + m, none⟩ = some (.int .i64 xs) := by
              show (w.setCell ⟨cb, 1 + m, none⟩ (.int .i64 vw)).cell? ⟨cb, 14 + m, none⟩ = _
              rw [HB1.out.cell, Array.getElem?_setIfInBounds, if_neg (by omega), ← h.cell]; exact hcs
            have fc : (w.setCell ⟨cb, 1 + m, none⟩ (.int .i64 vw)).drew.frozen? ⟨cb, 14 + m, none⟩ = false := HB1.out.frozen (14 + m)
            have fd : (w.setCell ⟨cb, 14 + m, none⟩ (.int .i64 sg)).drew.frozen? ⟨cb, 1 + m, none⟩ = false := HB2.out.frozen (1 + m)
            have HTu := Lib.hid (show Turn (fun j => j = cb) w ((w.setCell ⟨cb, 1 + m, none⟩ (.int .i64 vw)).setCell ⟨cb, 14 + m, none⟩ (.int .i64 sg)) from ((Turn.refl (fun j => j = cb) w).set_ ⟨cb, 1 + m, none⟩ _ rfl).set_ ⟨cb, 14 + m, none⟩ _ rfl)
            have HTu2 := Lib.hid (show Turn (fun j => j = cb) w ((w.setCell ⟨cb, 14 + m, none⟩ (.int .i64 sg)).setCell ⟨cb, 1 + m, none⟩ (.int .i64 vw)) from ((Turn.refl (fun j => j = cb) w).set_ ⟨cb, 14 + m, none⟩ _ rfl).set_ ⟨cb, 1 + m, none⟩ _ rfl)
            have hmi : (m : Int) < 13 := by omega
            clear h hn hn' f1 f4 k0 km hin v0 v1 hle ht hxv hxs HS
            go_enter Try.func24, Try.ntmps24
            go_wp2_with fail
            refine (HN.out _).mono ?_
            rintro e w1 ⟨rfl, rfl⟩
            go_wp2_with fail
            go_big_region
            go_wp2_with fail
            go_ret
            exact ⟨rfl, HT.out.1.drew, HTu.out.drewN 1⟩
          · rw [ptC_bad ht]
            have gv : decide (vw ≤ vD L m) = true := decide_eq_true (by
              by_cases e : vw ≤ vD L m
              · exact e
              · exact absurd (hle.2 e) ht)
            obtain ⟨xv, hxv⟩ : ∃ y, vD L m = y := ⟨_, rfl⟩
            rw [hxv] at gv hcv
            have hmi : (m : Int) < 13 := by omega
            clear h hn hn' f1 f4 k0 km hin v0 v1 hle ht hxv hcs
            go_enter Try.func24, Try.ntmps24
            go_wp2_with fail
            refine (HN.out _).mono ?_
            rintro e w1 ⟨rfl, rfl⟩
            go_wp2_with fail
            go_ret
            exact HS.out
        · rw [ptC_bad (fun e => v1 e.2.2.1)]
          have g0 : decide (vw < 0) = false := decide_eq_false (by omega)
          have g1 : decide (12 ≤ vw) = true := decide_eq_true (by omega)
          clear h hn hn' f1 f4 k0 km hin v0 v1 hcv hcs
          go_enter Try.func24, Try.ntmps24
          go_wp2_with fail
          refine (HN.out _).mono ?_
          rintro e w1 ⟨rfl, rfl⟩
          go_wp2_with fail
          go_ret
          exact HS.out
      · rw [ptC_bad (fun e => v0 e.2.1)]
        have g0 : decide (vw < 0) = true := decide_eq_true (by omega)
        clear h hn hn' f1 f4 k0 km hin v0 hcv hcs
        go_enter Try.func24, Try.ntmps24
        go_wp2_with fail
        refine (HN.out _).mono ?_
        rintro e w1 ⟨rfl, rfl⟩
        go_wp2_with fail
        go_ret
        exact HS.out
    · rw [ptC_bad (fun e => km (by have := e.1.2; rw [hn'] at this; omega))]
      have gk : decide ((m : Int) < 0) = false := decide_eq_false (by omega)
      have gk2 : decide ((n : Int) ≤ (m : Int)) = true := decide_eq_true (by omega)
      have gk3 : decide (n ≤ m) = true := decide_eq_true (by omega)
      clear h hn hn' f1 f4 k0 km
      go_enter Try.func24, Try.ntmps24
      go_wp2_with fail
      refine (HN.out _).mono ?_
      rintro e w1 ⟨rfl, rfl⟩
      go_wp2_with fail
      go_ret
      exact HS.out
  · rw [ptC_bad (fun e => k0 e.1.1)]
    have gk : decide (k < 0) = true := decide_eq_true (by omega)
    clear h hn hn' f1 f4 k0
    go_enter Try.func24, Try.ntmps24
    go_wp2_with fail
    go_ret
    exact HS.out
end
end Go.Proofs.Ytfbipebijelfjaa
