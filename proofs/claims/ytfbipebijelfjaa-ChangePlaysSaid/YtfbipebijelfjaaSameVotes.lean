/- The contracts of keep.Same at votes, at requests. -/
import Derived.Test.YtfbipebijelfjaaLists
import Derived.Laws.StructEq
import Derived.Deep.QuietTactic
import Derived.BigQuiet
import Derived.Outline
namespace Go.Proofs.Ytfbipebijelfjaa
open Go.RowKit

/-- Whether two lists are the same. -/
def sameL {α : Type} [DecidableEq α] (l m : List α) : Bool := decide (l = m)
theorem takeL_next {α : Type} {l m : List α} {k : Nat} (h1 : k < l.length) (h2 : k < m.length) (h : l.take k = m.take k) (e : l[k] = m[k]) : l.take (k + 1) = m.take (k + 1) := by
  rw [List.take_succ_eq_append_getElem h1, List.take_succ_eq_append_getElem h2, h, e]
theorem sameL_far {α : Type} [DecidableEq α] {l m : List α} {k : Nat} (h1 : k < l.length) (h2 : k < m.length) (e : l[k] ≠ m[k]) : sameL l m = false := by
  unfold sameL
  rw [decide_eq_false_iff_not]
  rintro rfl
  exact e rfl
theorem sameL_end {α : Type} [DecidableEq α] {l m : List α} {k : Nat} (hk : l.length ≤ k) (h : l.take k = m.take k) (hl : l.length = m.length) : sameL l m = true := by
  unfold sameL
  rw [decide_eq_true_iff]
  rwa [List.take_of_length_le hk, List.take_of_length_le (by omega)] at h
theorem sameL_len {α : Type} [DecidableEq α] {l m : List α} (h : l.length ≠ m.length) : sameL l m = false := by
  unfold sameL
  rw [decide_eq_false_iff_not]
  rintro rfl
  exact h rfl

theorem fields_vote : Try.prog.underlying 35 = some (.struct (Try.prog.fieldsOf 35)) := by kernel_rfl
theorem guard_vote (op : BinOp) (x y : Operand) (xs ys : Array Value) (w : World) : (eqGuard op 35 x y (.agg xs) (.agg ys)).run Try.prog w = .ok () w := run_eqGuard_agg w op 35 x y xs ys (by kernel_rfl)
theorem equal_vote (x y : Vt) (d : Nat) (w : World) : (Op.equalIn (d + 2) 35 (.agg #[.int .i64 x.nd, .int .i64 x.sg]) (.agg #[.int .i64 y.nd, .int .i64 y.sg])).run Try.prog w = .ok (decide (x = y)) w := by
  rw [run_equalIn_struct w (d + 1) 35 _ _ fields_vote (by kernel_rfl)]
  obtain ⟨a, b⟩ := x
  obtain ⟨c, e⟩ := y
  have hf : (Try.prog.fieldsOf 35).toList = [⟨ "Node", 3, 0, false, "", "", 0⟩, ⟨ "Seal", 3, 1, false, "", "", 8⟩] := by kernel_rfl
  rw [hf]
  by_cases h1 : a = c
  · by_cases h2 : b = e
    · simp [Op.eqFields, part, go_sem, h1, h2]
    · simp [Op.eqFields, part, go_sem, h1, h2]
  · simp [Op.eqFields, part, go_sem, h1]

theorem neq_vote {x y : Vt} {r : Bool} (h : (!decide (x = y)) = r) (w : World) : (binOp .neq 35 (.agg #[.int .i64 x.nd, .int .i64 x.sg]) (.agg #[.int .i64 y.nd, .int .i64 y.sg])).run Try.prog w = .ok (.bool r) w := by
  rw [run_neq_struct, equal_vote x y 9998 w, ← h]
  rfl

set_option maxHeartbeats 400000 in
theorem same_votes (A A' : Option Addr) (c c' : Nat) (zs ys : List Vt) (B : Nat) (w : World) (hl : zs.length ≤ 9223372036854775806) (h1 : Has w B A (voteCells zs)) (h2 : Has w B A' (voteCells ys)) :
    Calls Try.prog 27 #[.slice A zs.length c, .slice A' ys.length c'] w fun e w' => e = .returned (.bool (sameL zs ys)) ∧ ∃ nq, w' = w.drewN nq := by
  have H1 := Lib.hid h1
  have H2 := Lib.hid h2
  clear h1 h2
  by_cases hlen : zs.length = ys.length
  · have HL := Lib.hid hlen
    go_enter Try.func27, Try.ntmps27
    go_wp2
    clear hlen
    go_loopw [5] (fun x wr => ∃ (k nq : Nat), x = .int .i64 k ∧ k ≤ zs.length ∧ wr = w.drewN nq ∧ Hid (zs.take k = ys.take k)) (fun x _ => zs.length - (intOf x).toNat)
    case atStart => exact ⟨0, 0, rfl, Nat.zero_le _, rfl, rfl⟩
    case round =>
      obtain ⟨k, nq, rfl, hk, rfl, HT⟩ := hrel
      by_cases hlt : k < zs.length
      · have hlt2 : k < ys.length := by rw [← HL.out]; exact hlt
        obtain ⟨a1, rfl, _, c0, c1⟩ := H1.out.vote hlt
        obtain ⟨a2, rfl, _, d0, d1⟩ := H2.out.vote hlt2
        obtain ⟨x, hx⟩ : ∃ x, zs[k] = x := ⟨_, rfl⟩
        obtain ⟨y, hy⟩ : ∃ y, ys[k] = y := ⟨_, rfl⟩
        rw [hx] at c0 c1
        rw [hy] at d0 d1
        have HX := Lib.hid hx
        have HY := Lib.hid hy
        clear hx hy
        have G := fun (w : World) => guard_vote .neq (.tmp 20) (.tmp 24) #[.int .i64 x.nd, .int .i64 x.sg] #[.int .i64 y.nd, .int .i64 y.sg] w
        by_cases hxy : x = y
        · have E := fun (w : World) => neq_vote (x := x) (y := y) (r := false) (by simp [hxy]) w
          have HT2 := Lib.hid (takeL_next hlt hlt2 HT.out (HX.out.trans (hxy.trans HY.out.symm)))
          clear hxy
          go_wp2
          go_quiet (fail)
          clear E G
          go_wp2
          go_roundw
          case rel => exact ⟨k + 1, _, by go_num, by omega, rfl, HT2.out⟩
          case measure => simp [intOf]; omega
        · have E := fun (w : World) => neq_vote (x := x) (y := y) (r := true) (by simp [hxy]) w
          have HS := Lib.hid (sameL_far hlt hlt2 (by rw [HX.out, HY.out]; exact hxy))
          clear hxy
          go_wp2
          go_quiet (fail)
          clear E G
          go_wp2
          go_ret
          exact ⟨by rw [HS.out]; rfl, ⟨_, World.drewN_drewN _ _ _⟩⟩
      · have HS := Lib.hid (sameL_end (by omega : zs.length ≤ k) HT.out HL.out)
        go_wp2
        go_ret
        exact ⟨by rw [HS.out]; rfl, ⟨_, rfl⟩⟩
  · have HS := Lib.hid (sameL_len hlen)
    have hb : decide (zs.length = ys.length) = false := by simpa using hlen
    have hb2 : ((zs.length : Int) != ys.length) = true := by simp; omega
    go_enter Try.func27, Try.ntmps27
    go_wp2
    go_ret
    exact ⟨by rw [HS.out]; rfl, ⟨0, rfl⟩⟩
end Go.Proofs.Ytfbipebijelfjaa
