/- The statement MsgsUnlike: whatever the input, the law returns true, and each argument reads afterwards as it read before. The walk is Unlike6Walk's. -/
import Derived.Test.YtbebfgfpdcdcoaaOS5
import Derived.Test.YtbebfgfpdcdcoaaOUnlike6Walk
import Derived.Test.YtbebfgfpdcdcoaaRows
import Derived.ProofKit
import Derived.OpenShut
import Derived.ShutString
import Derived.ChangeOld
namespace Go.Proofs.Ytbebfgfpdcdcoaa.msgsUnlike
open Go.ChangeShapes Go.WideShapes Go.ChangeAt Go.RowKit
set_option linter.unusedVariables false
theorem own : ownKnob Try.prog.godebug = none := by kernel_rfl
theorem laidOut : laidOutB Try.prog = true := by kernel_rfl
set_option maxHeartbeats 1000000 in
set_option maxRecDepth 100000 in
theorem lifted (os : Os) (started : os.Started) (H : Type) (enc : TypeId × Value → H) :
    ReturnsInHanded {} Try.checked os 3 .any (Rows.msgsUnlikeSpec.pre6 enc Try.prog Try.f3 Rows.msgsUnlikeRow.domain false) (Rows.msgsUnlikeSpec.post enc Try.prog Try.f3 false true false false) := by
  refine returnsInHanded_of_change (C := Try.checked) own started (by kernel_rfl) Try.func3
    (ChangeSpec.witness6 (enc := enc) (C := Try.checked) false ⟨#[], #[.agg #[.int .i64 0, .int .i64 0, .int .i64 0, .int .i64 0, .int .i64 0, .int .i64 0, .slice none 0 0, .slice none 0 0, .slice none 0 0, .slice none 0 0], .agg #[.int .i64 0, .int .i64 0, .int .i64 0, .int .i64 0, .int .i64 0, .int .i64 0, .slice none 0 0, .slice none 0 0, .slice none 0 0, .slice none 0 0], .int .i64 0], []⟩ 8 (by kernel_rfl) (by kernel_rfl) (by kernel_rfl) (by kernel_rfl)) ?_
  intro W base args ds gs before hval0 hW hcnd _
  have hval : ∀ (j : Nat) t v, Try.f3.params[j]? = some t → args[j]? = some v → Value.okWide Try.prog W .any base t v := hval0
  have hW' := hW
  obtain ⟨p, q, hA0, hV, rfl, hfz, hnd⟩ := hW
  have hA : DataW.TrodAll enc Try.prog W 0 (fun _ => true) true Try.f3.params.toList args.toList ds p := hA0
  rw [Try.params3] at hA hval
  obtain ⟨v0, vs0, d0, ds0, p0, q0, hargs, rfl, rfl, h0, r0⟩ := trodAll_cons hA
  obtain ⟨v1, vs1, d1, ds1, p1, q1, rfl, rfl, rfl, h1, r1⟩ := trodAll_cons r0
  obtain ⟨v2, vs2, d2, ds2, p2, q2, rfl, rfl, rfl, h2, r2⟩ := trodAll_cons r1
  obtain ⟨rfl, rfl, rfl⟩ := trodAll_nil r2
  obtain rfl : args = #[v0, v1, v2] := by cases args; simp_all
  obtain ⟨rfl, rfl⟩ := trodVars_none hV
  obtain ⟨cs0, rfl, hsz0⟩ := okWide_struct Try.underlying27 (hval 0 27 v0 rfl rfl)
  have k0 := h0
  have lt0 : ∀ x ∈ p0, x.block < W.heap.size := by obtain ⟨m, hm⟩ := k0; exact DataW.trod_lt m _ _ _ hm
  obtain ⟨x0, hr0, w0⟩ : ∃ x : Ms, cs0.toList = x.vals.toList ∧ x.Came W := by
    obtain ⟨fuel, hf⟩ := h0
    have hn : Try.prog.cellsOf 27 = 10 := by kernel_rfl
    exact trod_msg (cs := cs0.toList) (by rw [Array.length_toList, hsz0, hn]) hf
  obtain rfl : cs0 = #[.int .i64 x0.m.kd, .int .i64 x0.m.fr, .int .i64 x0.m.vw, .int .i64 x0.m.ins, .int .i64 x0.m.sq, .int .i64 x0.m.rs, .slice x0.A1 x0.m.bt.length x0.c1, .slice x0.A2 x0.m.vs.length x0.c2, .slice x0.A3 x0.m.cs.length x0.c3, .slice x0.A4 x0.m.ps.length x0.c4] := by
    rw [← Array.toArray_toList (xs := cs0), hr0]; rfl
  obtain ⟨cs1, rfl, hsz1⟩ := okWide_struct Try.underlying27 (hval 1 27 v1 rfl rfl)
  have k1 := h1
  have lt1 : ∀ x ∈ p1, x.block < W.heap.size := by obtain ⟨m, hm⟩ := k1; exact DataW.trod_lt m _ _ _ hm
  obtain ⟨x1, hr1, w1⟩ : ∃ x : Ms, cs1.toList = x.vals.toList ∧ x.Came W := by
    obtain ⟨fuel, hf⟩ := h1
    have hn : Try.prog.cellsOf 27 = 10 := by kernel_rfl
    exact trod_msg (cs := cs1.toList) (by rw [Array.length_toList, hsz1, hn]) hf
  obtain rfl : cs1 = #[.int .i64 x1.m.kd, .int .i64 x1.m.fr, .int .i64 x1.m.vw, .int .i64 x1.m.ins, .int .i64 x1.m.sq, .int .i64 x1.m.rs, .slice x1.A1 x1.m.bt.length x1.c1, .slice x1.A2 x1.m.vs.length x1.c2, .slice x1.A3 x1.m.cs.length x1.c3, .slice x1.A4 x1.m.ps.length x1.c4] := by
    rw [← Array.toArray_toList (xs := cs1), hr1]; rfl
  obtain ⟨a2, rfl, rfl, rfl, w2⟩ := open_int Try.underlying3 (hval 2 3 v2 rfl rfl) h2
  clear hA0 hval0
  refine (msgsUnlike_walk x0 x1 a2 W w0 w1 w2).mono fun e W' ⟨he, bel⟩ => ?_
  subst he
  exact ⟨_, rfl, _, _, _, [], _, [], hW', trodAll_mk1 (shut_bool Try.underlying4 _), (trodAll_cons_mk (Below.trod laidOut (by kernel_rfl) (of_decide_eq_true (by kernel_rfl)) k0 bel lt0) (trodAll_cons_mk (Below.trod laidOut (by kernel_rfl) (of_decide_eq_true (by kernel_rfl)) k1 bel lt1) (trodAll_cons_mk (shut_int Try.underlying3 w2) trodAll_mk0))), rfl, bel.frame _, fun h => by cases h⟩
/-- The given statement. -/
theorem proved : Rows.MsgsUnlikeSaid :=
  OpenClaim.holds_of_wide 3 Try.f3 rfl rfl rfl rfl rfl rfl rfl ⟨rfl, rfl, rfl, rfl, rfl⟩ rfl rfl rfl rfl rfl (by kernel_rfl) Try.func3 (by kernel_rfl)
    (of_decide_eq_true (by kernel_rfl)) (by unfold Func.isWrapper; rw [if_neg (by decide +kernel)]; exact ⟨rfl, rfl⟩)
    (fun os started H enc _ => lifted os started H enc)
end Go.Proofs.Ytbebfgfpdcdcoaa.msgsUnlike
