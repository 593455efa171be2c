/- The contract of msgs.Form at votes to leave a view. -/
import Derived.Test.YtbegjadohamkkaaGreatOMsgForm
namespace Go.Proofs.YtbegjadohamkkaaGreat
open Go.RowKit

set_option maxHeartbeats 1000000 in
theorem nodeform6 (x : Ms) (hk : x.m.kd = 6) (f n : Int) (w : World) :
    Calls Tryz.prog 91 #[.agg #[.int .i64 x.m.kd, .int .i64 x.m.fr, .int .i64 x.m.vw, .int .i64 x.m.ins, .int .i64 x.m.sq, .int .i64 x.m.rs, .slice x.A1 x.m.bt.length x.c1, .slice x.A2 x.m.vs.length x.c2, .slice x.A3 x.m.cs.length x.c3, .slice x.A4 x.m.ps.length x.c4], .int .i64 f, .int .i64 n] w
      fun e w' => e = .returned (.bool (decide (0 ≤ x.m.vw) && decide (x.m.vw ≤ 11))) ∧ Below w.heap.size w w' := by
  rw [hk]
  have HB := Lib.hid (fun cs => show Below w.heap.size w (w.alloc (.cells cs 38)) from (Below.refl _ w).alloc (Nat.le_refl _) _)
  have HW := Lib.hid (mwithin x.m.vw 0 11)
  obtain ⟨r, hr⟩ : ∃ r, (decide (0 ≤ x.m.vw) && decide (x.m.vw ≤ 11)) = r := ⟨_, rfl⟩
  rw [hr] at HW ⊢
  clear hk hr
  go_enter Tryz.func91, Tryz.ntmps91
  go_wp2_with fail
  refine (HW.out _).mono ?_
  rintro e w1 ⟨rfl, rfl⟩
  go_wp2_with fail
  go_ret
  exact ⟨rfl, HB.out _⟩
end Go.Proofs.YtbegjadohamkkaaGreat
