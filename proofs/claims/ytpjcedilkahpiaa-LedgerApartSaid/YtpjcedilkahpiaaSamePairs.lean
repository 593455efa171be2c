/- The contract of keep.Same at rows of two ints that are the same. -/
import Derived.Test.YtpjcedilkahpiaaStoreMath
import Derived.Test.YtpjcedilkahpiaaThings
import Derived.Laws.StructEq
import Derived.ChangeKeysEq
import Derived.Deep.QuietTactic
import Derived.BigQuiet
import Derived.Outline
import Derived.Lib.Hide
namespace Go.Proofs.Ytpjcedilkahpiaa
open Go.RowKit

theorem pair_at {w : World} {B : Nat} {A : Option Addr} {l : List (Int × Int)} (h : Has w B A (pairCells l)) {k : Nat} (hk : k < l.length) :
    ∃ ad, A = some ad ∧ ad.block < B ∧ w.cell? (ad.add (k * 2)) = some (.int .i64 l[k].1) ∧ w.cell? ⟨(ad.add (k * 2)).block, (ad.add (k * 2)).off + 1, none⟩ = some (.int .i64 l[k].2) := by
  obtain ⟨ad, e, hb, hc⟩ := Has.thing (f := fun p : Int × Int => [.int .i64 p.1, .int .i64 p.2]) (s := 2) (fun _ => rfl) (by omega) h hk
  refine ⟨ad, e, hb, hc 0 _ rfl, ?_⟩
  rw [← add_pos _ _ _ (by omega)]
  exact hc 1 _ rfl
theorem equal_pair (a b : Int) (d : Nat) (w : World) : (Op.equalIn (d + 2) 83 (.agg #[.int .i64 a, .int .i64 b]) (.agg #[.int .i64 a, .int .i64 b])).run Try.prog w = .ok true w := by
  obtain ⟨i, hi⟩ : ∃ i, Try.prog.info? 3 = some i := ⟨_, rfl⟩
  rw [run_equalIn_array w (d + 1) _ _ Try.underlying83 hi]
  have h1 : Try.prog.cellsOf 3 = 1 := by kernel_rfl
  rw [h1]
  simp [Op.eqItems, part, go_sem, List.range_succ]
theorem guard_pair (op : BinOp) (x y : Operand) (xs ys : Array Value) (w : World) : (eqGuard op 83 x y (.agg xs) (.agg ys)).run Try.prog w = .ok () w := run_eqGuard_agg w op 83 x y xs ys (by kernel_rfl)
theorem neq_pair (a b : Int) (w : World) : (binOp .neq 83 (.agg #[.int .i64 a, .int .i64 b]) (.agg #[.int .i64 a, .int .i64 b])).run Try.prog w = .ok (.bool false) w := by
  rw [run_neq_struct, equal_pair a b 9998 w]
  rfl
set_option maxHeartbeats 1000000 in
theorem same_pairs (A A' : Option Addr) (c c' : Nat) (l : List (Int × Int)) (B : Nat) (w : World) (hl : l.length ≤ 9223372036854775806) (h1 : Has w B A (pairCells l)) (h2 : Has w B A' (pairCells l)) :
    Calls Try.prog 46 #[.slice A l.length c, .slice A' l.length c'] w fun e w' => e = .returned (.bool true) ∧ ∃ nq, w' = w.drewN nq := by
  have H1 := Lib.hid h1
  have H2 := Lib.hid h2
  clear h1 h2
  go_enter Try.func46, Try.ntmps46
  go_wp2
  go_loopw [5] (fun x wr => ∃ (k nq : Nat), x = .int .i64 k ∧ k ≤ l.length ∧ wr = w.drewN nq) (fun x _ => l.length - (intOf x).toNat)
  case atStart => exact ⟨0, 0, rfl, Nat.zero_le _, rfl⟩
  case round =>
    obtain ⟨k, nq, rfl, hk, rfl⟩ := hrel
    by_cases hlt : k < l.length
    · obtain ⟨a1, rfl, _, c0, c1⟩ := pair_at H1.out hlt
      obtain ⟨a2, rfl, _, d0, d1⟩ := pair_at H2.out hlt
      obtain ⟨x, hx⟩ : ∃ x, l[k] = x := ⟨_, rfl⟩
      rw [hx] at c0 c1 d0 d1
      obtain ⟨x, y⟩ := x
      simp only at c0 c1 d0 d1
      clear hx
      have G := fun (w : World) => guard_pair .neq (.tmp 20) (.tmp 24) #[.int .i64 x, .int .i64 y] #[.int .i64 x, .int .i64 y] w
      have E := fun (w : World) => neq_pair x y w
      go_wp2
      go_big_quiet (fail)
      clear E G
      go_wp2
      go_roundw
      case rel => exact ⟨k + 1, _, by go_num, by omega, rfl⟩
      case measure => simp [intOf]; omega
    · go_wp2
      go_ret
      exact ⟨rfl, nq, rfl⟩
end Go.Proofs.Ytpjcedilkahpiaa
