/- The contract of keep.Same at ints. (The plain part is that of XSame, which has the bytes'.) -/
import Derived.Test.YtdljbmjjdjbopaaWithin
import Derived.Lib.Hide
import Derived.Deep.QuietTactic
import Derived.BigQuiet
namespace Go.Proofs.Ytdljbmjjdjbopaa
open Go.RowKit

def sameB (l m : List Int) : Bool := decide (l = m)

theorem take_snoc {l r : List Int} {k : Nat} {x : Int} (h : l.drop k = x :: r) : l.take (k + 1) = l.take k ++ [x] := by
  have hk : k < l.length := by
    rcases Nat.lt_or_ge k l.length with h1 | h1
    · exact h1
    · rw [List.drop_eq_nil_of_le h1] at h; cases h
  rw [List.drop_eq_getElem_cons hk] at h
  injection h with h1 _
  rw [List.take_succ_eq_append_getElem hk, h1]
theorem take_next {l m r q : List Int} {k : Nat} {x y : Int} (h : l.take k = m.take k) (h1 : l.drop k = x :: r) (h2 : m.drop k = y :: q) (e : x = y) : l.take (k + 1) = m.take (k + 1) := by
  rw [take_snoc h1, take_snoc h2, h, e]
theorem sameB_far {l m r q : List Int} {k : Nat} {x y : Int} (h1 : l.drop k = x :: r) (h2 : m.drop k = y :: q) (e : x ≠ y) : sameB l m = false := by
  unfold sameB
  rw [decide_eq_false_iff_not]
  rintro rfl
  rw [h1] at h2
  injection h2 with h3 _
  exact e h3
theorem sameB_end {l m : List Int} {k : Nat} (hk : l.length ≤ k) (h : l.take k = m.take k) (hl : l.length = m.length) : sameB l m = true := by
  unfold sameB
  rw [decide_eq_true_iff]
  rw [List.take_of_length_le hk, List.take_of_length_le (by omega)] at h
  exact h

set_option maxHeartbeats 400000 in
theorem same_ints (A A' : Option Addr) (c c' : Nat) (zs ys : List Int) (B : Nat) (w : World) (hl : zs.length ≤ 9223372036854775806) (h1 : Has w B A (zs.map (Value.int .i64))) (h2 : Has w B A' (ys.map (Value.int .i64))) :
    Calls Try.prog 15 #[.slice A zs.length c, .slice A' ys.length c'] w fun e w' => e = .returned (.bool (sameB zs ys)) ∧ ∃ nq, w' = w.drewN nq := by
  have H1 := Lib.hid h1
  have H2 := Lib.hid h2
  clear h1 h2
  by_cases hlen : zs.length = ys.length
  · have HL := Lib.hid hlen
    go_enter Try.func15, Try.ntmps15
    go_wp2
    clear hlen
    go_loopw [5] (fun x wr => ∃ (k nq : Nat), x = .int .i64 k ∧ k ≤ zs.length ∧ wr = w.drewN nq ∧ Hid (zs.take k = ys.take k)) (fun x _ => zs.length - (intOf x).toNat)
    case atStart => exact ⟨0, 0, rfl, Nat.zero_le _, rfl, rfl⟩
    case round =>
      obtain ⟨k, nq, rfl, hk, rfl, HT⟩ := hrel
      by_cases hlt : k < zs.length
      · obtain ⟨a1, x1, rfl, _, hc1, hd1, _⟩ := H1.out.int hlt
        obtain ⟨a2, x2, rfl, _, hc2, hd2, _⟩ := H2.out.int (show k < ys.length by rw [← HL.out]; exact hlt)
        have hlt2 : k < ys.length := by rw [← HL.out]; exact hlt
        by_cases hx : (x1 != x2) = true
        · have HS := Lib.hid (sameB_far hd1 hd2 (by simpa using hx))
          clear hd1 hd2
          go_wp2
          go_quiet (fail)
          go_wp2
          go_ret
          exact ⟨by rw [HS.out]; rfl, ⟨_, World.drewN_drewN _ _ _⟩⟩
        · have hx' : (x1 != x2) = false := by simpa using hx
          have HT2 := Lib.hid (take_next HT.out hd1 hd2 (by simpa using hx))
          clear hd1 hd2 hx
          go_wp2
          go_quiet (fail)
          go_wp2
          go_roundw
          case rel => exact ⟨k + 1, _, by go_num, by omega, rfl, HT2.out⟩
          case measure => simp [intOf]; omega
      · have HS := Lib.hid (sameB_end (by omega : zs.length ≤ k) HT.out HL.out)
        go_wp2
        go_ret
        exact ⟨by rw [HS.out]; rfl, ⟨_, rfl⟩⟩
  · have HS := Lib.hid (show sameB zs ys = false by unfold sameB; rw [decide_eq_false_iff_not]; rintro rfl; exact hlen rfl)
    have hb : decide (zs.length = ys.length) = false := by simpa using hlen
    have hb2 : ((zs.length : Int) != ys.length) = true := by simp; omega
    go_enter Try.func15, Try.ntmps15
    go_wp2
    go_ret
    exact ⟨by rw [HS.out]; rfl, ⟨0, rfl⟩⟩
end Go.Proofs.Ytdljbmjjdjbopaa
