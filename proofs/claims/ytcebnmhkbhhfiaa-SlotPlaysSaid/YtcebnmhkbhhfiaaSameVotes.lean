/- The contracts of keep.Same at votes, at requests. -/
import Derived.Test.YtcebnmhkbhhfiaaLists
import Derived.Laws.StructEq
import Derived.Deep.QuietTactic
import Derived.BigQuiet
import Derived.Outline
namespace Go.Proofs.Ytcebnmhkbhhfiaa
open Go.RowKit

/-- Whether two lists are the same. -/
def sameL {α : Type} [DecidableEq α] (l m : List α) : Bool := decide (l = m)
theorem takeL_next {α : Type} {l m : List α} {k : Nat} (h1 : k < l.length) (h2 : k < m.length) (h : l.take k = m.take k) (e : l[k] = m[k]) : l.take (k + 1) = m.take (k + 1) := by
  rw [List.take_succ_eq_append_getElem h1, List.take_succ_eq_append_getElem h2, h, e]
theorem sameL_far {α : Type} [DecidableEq α] {l m : List α} {k : Nat} (h1 : k < l.length) (h2 : k < m.length) (e : l[k] ≠ m[k]) : sameL l m = false := by
  unfold sameL
  rw [decide_eq_false_iff_not]
  rintro rfl
  exact e rfl
theorem sameL_end {α : Type} [DecidableEq α] {l m : List α} {k : Nat} (hk : l.length ≤ k) (h : l.take k = m.take k) (hl : l.length = m.length) : sameL l m = true := by
  unfold sameL
  rw [decide_eq_true_iff]
  rwa [List.take_of_length_le hk, List.take_of_length_le (by omega)] at h
theorem sameL_len {α : Type} [DecidableEq α] {l m : List α} (h : l.length ≠ m.length) : sameL l m = false := by
  unfold sameL
  rw [decide_eq_false_iff_not]
  rintro rfl
  exact h rfl

theorem fields_vote : Try.prog.underlying 78 = some (.struct (Try.prog.fieldsOf 78)) := by kernel_rfl
theorem guard_vote (op : BinOp) (x y : Operand) (xs ys : Array Value) (w : World) : (eqGuard op 78 x y (.agg xs) (.agg ys)).run Try.prog w = .ok () w := run_eqGuard_agg w op 78 x y xs ys (by kernel_rfl)
theorem equal_vote (x y : Vt) (d : Nat) (w : World) : (Op.equalIn (d + 2) 78 (.agg #[.int .i64 x.nd, .int .i64 x.sg]) (.agg #[.int .i64 y.nd, .int .i64 y.sg])).run Try.prog w = .ok (decide (x = y)) w := by
  rw [run_equalIn_struct w (d + 1) 78 _ _ fields_vote (by kernel_rfl)]
  obtain ⟨a, b⟩ := x
  obtain ⟨c, e⟩ := y
  have hf : (Try.prog.fieldsOf 78).toList = [⟨ "Node", 3, 0, false, "", "", 0⟩, ⟨ "Seal", 3, 1, false, "", "", 8⟩] := by kernel_rfl
  rw [hf]
  by_cases h1 : a = c
  · by_cases h2 : b = e
    · simp [Op.eqFields, part, go_sem, h1, h2]
    · simp [Op.eqFields, part, go_sem, h1, h2]
  · simp [Op.eqFields, part, go_sem, h1]

theorem neq_vote {x y : Vt} {r : Bool} (h : (!decide (x = y)) = r) (w : World) : (binOp .neq 78 (.agg #[.int .i64 x.nd, .int .i64 x.sg]) (.agg #[.int .i64 y.nd, .int .i64 y.sg])).run Try.prog w = .ok (.bool r) w := by
  rw [run_neq_struct, equal_vote x y 9998 w, ← h]
  rfl

set_option maxHeartbeats 400000 in
theorem same_votes (A A' : Option Addr) (c c' : Nat) (zs ys : List Vt) (B : Nat) (w : World) (hl : zs.length ≤ 9223372036854775806) (h1 : Has w B A (voteCells zs)) (h2 : Has w B A' (voteCells ys)) :
    Calls Try.prog 26 #[.slice A zs.length c, .slice A' ys.length c'] w fun e w' => e = .returned (.bool (sameL zs ys)) ∧ ∃ nq, w' = w.drewN nq := by
  have H1 := Lib.hid h1
  have H2 := Lib.hid h2
  clear h1 h2
  by_cases hlen : zs.length = ys.length
  · have HL := Lib.hid hlen
    go_enter Try.func26, Try.ntmps26
    go_wp2
    clear hlen
    go_loopw [5] (fun x wr => ∃ (k nq : Nat), x = .int .i64 k ∧ k ≤ zs.length ∧ wr = w.drewN nq ∧ Hid (zs.take k = ys.take k)) (fun x _ => zs.length - (intOf x).toNat)
    case atStart => exact ⟨0, 0, rfl, Nat.zero_le _, rfl, rfl⟩
    case round =>
      obtain ⟨k, nq, rfl, hk, rfl, HT⟩ := hrel
      by_cases hlt : k < zs.length
      · have hlt2 : k < ys.length := by rw [← HL.out]; exact hlt
        obtain ⟨a1, rfl, _, c0, c1⟩ := H1.out.vote hlt
        obtain ⟨a2, rfl, _, d0, d1⟩ := H2.out.vote hlt2
        obtain ⟨x, hx⟩ : ∃ x, zs[k] = x := ⟨_, rfl⟩
        obtain ⟨y, hy⟩ : ∃ y, ys[k] = y := ⟨_, rfl⟩
        rw [hx] at c0 c1
        rw [hy] at d0 d1
        have HX := Lib.hid hx
        have HY := Lib.hid hy
        clear hx hy
        have G := fun (w : World) => guard_vote .neq (.tmp 20) (.tmp 24) #[.int .i64 x.nd, .int .i64 x.sg] #[.int .i64 y.nd, .int .i64 y.sg] w
        by_cases hxy : x = y
        · have E := fun (w : World) => neq_vote (x := x) (y := y) (r := false) (by simp [hxy]) w
          have HT2 := Lib.hid (takeL_next hlt hlt2 HT.out (HX.out.trans (hxy.trans HY.out.symm)))
          clear hxy
          go_wp2
          go_quiet (fail)
          clear E G
          go_wp2
          go_roundw
          case rel => exact ⟨k + 1, _, by go_num, by omega, rfl, HT2.out⟩
          case measure => simp [intOf]; omega
        · have E := fun (w : World) => neq_vote (x := x) (y := y) (r := true) (by simp [hxy]) w
          have HS := Lib.hid (sameL_far hlt hlt2 (by rw [HX.out, HY.out]; exact hxy))
          clear hxy
          go_wp2
          go_quiet (fail)
          clear E G
          go_wp2
          go_ret
          exact ⟨by rw [HS.out]; rfl, ⟨_, World.drewN_drewN _ _ _⟩⟩
      · have HS := Lib.hid (sameL_end (by omega : zs.length ≤ k) HT.out HL.out)
        go_wp2
        go_ret
        exact ⟨by rw [HS.out]; rfl, ⟨_, rfl⟩⟩
  · have HS := Lib.hid (sameL_len hlen)
    have hb : decide (zs.length = ys.length) = false := by simpa using hlen
    have hb2 : ((zs.length : Int) != ys.length) = true := by simp; omega
    go_enter Try.func26, Try.ntmps26
    go_wp2
    go_ret
    exact ⟨by rw [HS.out]; rfl, ⟨0, rfl⟩⟩
theorem fields_req : Try.prog.underlying 71 = some (.struct (Try.prog.fieldsOf 71)) := by kernel_rfl
theorem fields_op : Try.prog.underlying 69 = some (.struct (Try.prog.fieldsOf 69)) := by kernel_rfl
theorem guard_req (op : BinOp) (x y : Operand) (xs ys : Array Value) (w : World) : (eqGuard op 71 x y (.agg xs) (.agg ys)).run Try.prog w = .ok () w := run_eqGuard_agg w op 71 x y xs ys (by kernel_rfl)
theorem equal_op (a b c a' b' c' : Int) (d : Nat) (w : World) : (Op.equalIn (d + 2) 69 (.agg #[.int .i64 a, .int .i64 b, .int .i64 c]) (.agg #[.int .i64 a', .int .i64 b', .int .i64 c'])).run Try.prog w = .ok (decide (a = a' ∧ b = b' ∧ c = c')) w := by
  rw [run_equalIn_struct w (d + 1) 69 _ _ fields_op (by kernel_rfl)]
  have hf : (Try.prog.fieldsOf 69).toList = [⟨ "Kind", 3, 0, false, "", "", 0⟩, ⟨ "Key", 3, 1, false, "", "", 8⟩, ⟨ "Val", 3, 2, false, "", "", 16⟩] := by kernel_rfl
  rw [hf]
  by_cases h1 : a = a'
  · by_cases h2 : b = b'
    · by_cases h3 : c = c'
      · simp [Op.eqFields, part, go_sem, h1, h2, h3]
      · simp [Op.eqFields, part, go_sem, h1, h2, h3]
    · simp [Op.eqFields, part, go_sem, h1, h2]
  · simp [Op.eqFields, part, go_sem, h1]
theorem equal_req (x y : Rq) (d : Nat) (w : World) : (Op.equalIn (d + 3) 71 (.agg #[.int .i64 x.cl, .int .i64 x.tm, .int .i64 x.kd, .int .i64 x.ky, .int .i64 x.vl, .int .i64 x.sg]) (.agg #[.int .i64 y.cl, .int .i64 y.tm, .int .i64 y.kd, .int .i64 y.ky, .int .i64 y.vl, .int .i64 y.sg])).run Try.prog w = .ok (decide (x = y)) w := by
  rw [run_equalIn_struct w (d + 2) 71 _ _ fields_req (by kernel_rfl)]
  obtain ⟨a1, a2, a3, a4, a5, a6⟩ := x
  obtain ⟨b1, b2, b3, b4, b5, b6⟩ := y
  have hf : (Try.prog.fieldsOf 71).toList = [⟨ "Client", 3, 0, false, "", "", 0⟩, ⟨ "Time", 3, 1, false, "", "", 8⟩, ⟨ "Op", 69, 2, false, "", "", 16⟩, ⟨ "Seal", 3, 5, false, "", "", 40⟩] := by kernel_rfl
  rw [hf]
  have ho : ∀ w, (Op.equalIn (d + 2) 69 (.agg #[.int .i64 a3, .int .i64 a4, .int .i64 a5]) (.agg #[.int .i64 b3, .int .i64 b4, .int .i64 b5])).run Try.prog w = .ok (decide (a3 = b3 ∧ a4 = b4 ∧ a5 = b5)) w := fun w => equal_op a3 a4 a5 b3 b4 b5 d w
  by_cases h1 : a1 = b1
  · by_cases h2 : a2 = b2
    · by_cases h3 : a3 = b3 ∧ a4 = b4 ∧ a5 = b5
      · by_cases h4 : a6 = b6
        · obtain ⟨h3, h5, h6⟩ := h3
          simp [Op.eqFields, part, go_sem, h1, h2, h3, h4, h5, h6]
        · simp only [Rq.mk.injEq]
          simp [Op.eqFields, part, go_sem, h1, h2, h3, h4]
      · have hne : ¬ ((⟨a1, a2, a3, a4, a5, a6⟩ : Rq) = ⟨b1, b2, b3, b4, b5, b6⟩) := fun h => h3 (by injection h with _ _ h1 h2 h3 _; exact ⟨h1, h2, h3⟩)
        rw [decide_eq_false hne]
        simp [Op.eqFields, part, go_sem, ho, h1, h2, h3]
    · simp [Op.eqFields, part, go_sem, h1, h2]
  · simp [Op.eqFields, part, go_sem, h1]
theorem neq_req {x y : Rq} {r : Bool} (h : (!decide (x = y)) = r) (w : World) : (binOp .neq 71 (.agg #[.int .i64 x.cl, .int .i64 x.tm, .int .i64 x.kd, .int .i64 x.ky, .int .i64 x.vl, .int .i64 x.sg]) (.agg #[.int .i64 y.cl, .int .i64 y.tm, .int .i64 y.kd, .int .i64 y.ky, .int .i64 y.vl, .int .i64 y.sg])).run Try.prog w = .ok (.bool r) w := by
  rw [run_neq_struct, equal_req x y 9997 w, ← h]
  rfl

set_option maxHeartbeats 400000 in
theorem same_reqs (A A' : Option Addr) (c c' : Nat) (zs ys : List Rq) (B : Nat) (w : World) (hl : zs.length ≤ 9223372036854775806) (h1 : Has w B A (reqCells zs)) (h2 : Has w B A' (reqCells ys)) :
    Calls Try.prog 33 #[.slice A zs.length c, .slice A' ys.length c'] w fun e w' => e = .returned (.bool (sameL zs ys)) ∧ ∃ nq, w' = w.drewN nq := by
  have H1 := Lib.hid h1
  have H2 := Lib.hid h2
  clear h1 h2
  by_cases hlen : zs.length = ys.length
  · have HL := Lib.hid hlen
    go_enter Try.func33, Try.ntmps33
    go_wp2
    clear hlen
    go_loopw [5] (fun x wr => ∃ (k nq : Nat), x = .int .i64 k ∧ k ≤ zs.length ∧ wr = w.drewN nq ∧ Hid (zs.take k = ys.take k)) (fun x _ => zs.length - (intOf x).toNat)
    case atStart => exact ⟨0, 0, rfl, Nat.zero_le _, rfl, rfl⟩
    case round =>
      obtain ⟨k, nq, rfl, hk, rfl, HT⟩ := hrel
      by_cases hlt : k < zs.length
      · have hlt2 : k < ys.length := by rw [← HL.out]; exact hlt
        obtain ⟨a1, rfl, _, c0, c1, c2, c3, c4, c5⟩ := H1.out.req hlt
        obtain ⟨a2, rfl, _, d0, d1, d2, d3, d4, d5⟩ := H2.out.req hlt2
        obtain ⟨x, hx⟩ : ∃ x, zs[k] = x := ⟨_, rfl⟩
        obtain ⟨y, hy⟩ : ∃ y, ys[k] = y := ⟨_, rfl⟩
        rw [hx] at c0 c1 c2 c3 c4 c5
        rw [hy] at d0 d1 d2 d3 d4 d5
        have HX := Lib.hid hx
        have HY := Lib.hid hy
        clear hx hy
        have G := fun (w : World) => guard_req .neq (.tmp 20) (.tmp 24) #[.int .i64 x.cl, .int .i64 x.tm, .int .i64 x.kd, .int .i64 x.ky, .int .i64 x.vl, .int .i64 x.sg] #[.int .i64 y.cl, .int .i64 y.tm, .int .i64 y.kd, .int .i64 y.ky, .int .i64 y.vl, .int .i64 y.sg] w
        by_cases hxy : x = y
        · have E := fun (w : World) => neq_req (x := x) (y := y) (r := false) (by simp [hxy]) w
          have HT2 := Lib.hid (takeL_next hlt hlt2 HT.out (HX.out.trans (hxy.trans HY.out.symm)))
          clear hxy
          go_wp2
          go_quiet (fail)
          clear E G
          go_wp2
          go_roundw
          case rel => exact ⟨k + 1, _, by go_num, by omega, rfl, HT2.out⟩
          case measure => simp [intOf]; omega
        · have E := fun (w : World) => neq_req (x := x) (y := y) (r := true) (by simp [hxy]) w
          have HS := Lib.hid (sameL_far hlt hlt2 (by rw [HX.out, HY.out]; exact hxy))
          clear hxy
          go_wp2
          go_quiet (fail)
          clear E G
          go_wp2
          go_ret
          exact ⟨by rw [HS.out]; rfl, ⟨_, World.drewN_drewN _ _ _⟩⟩
      · have HS := Lib.hid (sameL_end (by omega : zs.length ≤ k) HT.out HL.out)
        go_wp2
        go_ret
        exact ⟨by rw [HS.out]; rfl, ⟨_, rfl⟩⟩
  · have HS := Lib.hid (sameL_len hlen)
    have hb : decide (zs.length = ys.length) = false := by simpa using hlen
    have hb2 : ((zs.length : Int) != ys.length) = true := by simp; omega
    go_enter Try.func33, Try.ntmps33
    go_wp2
    go_ret
    exact ⟨by rw [HS.out]; rfl, ⟨0, rfl⟩⟩
end Go.Proofs.Ytcebnmhkbhhfiaa
