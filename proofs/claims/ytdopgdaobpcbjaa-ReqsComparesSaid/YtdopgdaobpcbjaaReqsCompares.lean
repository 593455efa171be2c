/- The statement ReqsCompares: whatever the input, the law returns true, and each argument reads afterwards as it read before. The walk is Compares5Walk's. -/
import Derived.Test.YtdopgdaobpcbjaaRows
import Derived.Test.YtdopgdaobpcbjaaOpens
import Derived.Test.YtdopgdaobpcbjaaCompares5Walk
import Derived.Test.YtdopgdaobpcbjaaReqDone
import Derived.ProofKit
import Derived.OpenShut
import Derived.ShutString
import Derived.ChangeOld
namespace Go.Proofs.Ytdopgdaobpcbjaa.reqsCompares
open Go.ChangeShapes Go.WideShapes Go.ChangeAt Go.RowKit
set_option linter.unusedVariables false
theorem own : ownKnob Try.prog.godebug = none := by kernel_rfl
theorem laidOut : laidOutB Try.prog = true := by kernel_rfl
set_option maxHeartbeats 1000000 in
set_option maxRecDepth 100000 in
theorem lifted (os : Os) (started : os.Started) (H : Type) (enc : TypeId × Value → H) :
    ReturnsInHanded {} Try.checked os 9 .any (Rows.reqsComparesSpec.pre6 enc Try.prog Try.f9 Rows.reqsComparesRow.domain false) (Rows.reqsComparesSpec.post enc Try.prog Try.f9 false true false false) := by
  refine returnsInHanded_of_change (C := Try.checked) own started (by kernel_rfl) Try.func9
    (ChangeSpec.witness6 (enc := enc) (C := Try.checked) false ⟨#[], #[.agg #[.int .i64 0, .int .i64 0, .int .i64 0, .int .i64 0, .int .i64 0, .int .i64 0], .agg #[.int .i64 0, .int .i64 0, .int .i64 0, .int .i64 0, .int .i64 0, .int .i64 0], .agg #[.int .i64 0, .int .i64 0, .int .i64 0, .int .i64 0, .int .i64 0, .int .i64 0]], []⟩ 8 (by kernel_rfl) (by kernel_rfl) (by kernel_rfl) (by kernel_rfl)) ?_
  intro W base args ds gs before hval0 hW hcnd _
  have hval : ∀ (j : Nat) t v, Try.f9.params[j]? = some t → args[j]? = some v → Value.okWide Try.prog W .any base t v := hval0
  have hW' := hW
  obtain ⟨p, q, hA0, hV, rfl, hfz, hnd⟩ := hW
  have hA : DataW.TrodAll enc Try.prog W 0 (fun _ => true) true Try.f9.params.toList args.toList ds p := hA0
  rw [Try.params9] at hA hval
  obtain ⟨v0, vs0, d0, ds0, p0, q0, hargs, rfl, rfl, h0, r0⟩ := trodAll_cons hA
  obtain ⟨v1, vs1, d1, ds1, p1, q1, rfl, rfl, rfl, h1, r1⟩ := trodAll_cons r0
  obtain ⟨v2, vs2, d2, ds2, p2, q2, rfl, rfl, rfl, h2, r2⟩ := trodAll_cons r1
  obtain ⟨rfl, rfl, rfl⟩ := trodAll_nil r2
  obtain rfl : args = #[v0, v1, v2] := by cases args; simp_all
  obtain ⟨rfl, rfl⟩ := trodVars_none hV
  obtain ⟨cs0, rfl, hsz0⟩ := okWide_struct Try.underlying34 (hval 0 34 v0 rfl rfl)
  have k0 := h0
  have lt0 : ∀ x ∈ p0, x.block < W.heap.size := by obtain ⟨m, hm⟩ := k0; exact DataW.trod_lt m _ _ _ hm
  obtain ⟨rq0, hr0⟩ : ∃ r : Rq, cs0.toList = r.cells := by
    obtain ⟨fuel, hf⟩ := h0
    have h6 : Try.prog.cellsOf 34 = 6 := by kernel_rfl
    obtain ⟨r, h1, _⟩ := trod_req (cs := cs0.toList) (by rw [Array.length_toList, hsz0, h6]) hf
    exact ⟨r, h1⟩
  obtain rfl : cs0 = #[.int .i64 rq0.cl, .int .i64 rq0.tm, .int .i64 rq0.kd, .int .i64 rq0.ky, .int .i64 rq0.vl, .int .i64 rq0.sg] := by
    rw [← Array.toArray_toList (xs := cs0), hr0]; rfl
  obtain ⟨cs1, rfl, hsz1⟩ := okWide_struct Try.underlying34 (hval 1 34 v1 rfl rfl)
  have k1 := h1
  have lt1 : ∀ x ∈ p1, x.block < W.heap.size := by obtain ⟨m, hm⟩ := k1; exact DataW.trod_lt m _ _ _ hm
  obtain ⟨rq1, hr1⟩ : ∃ r : Rq, cs1.toList = r.cells := by
    obtain ⟨fuel, hf⟩ := h1
    have h6 : Try.prog.cellsOf 34 = 6 := by kernel_rfl
    obtain ⟨r, h1, _⟩ := trod_req (cs := cs1.toList) (by rw [Array.length_toList, hsz1, h6]) hf
    exact ⟨r, h1⟩
  obtain rfl : cs1 = #[.int .i64 rq1.cl, .int .i64 rq1.tm, .int .i64 rq1.kd, .int .i64 rq1.ky, .int .i64 rq1.vl, .int .i64 rq1.sg] := by
    rw [← Array.toArray_toList (xs := cs1), hr1]; rfl
  obtain ⟨cs2, rfl, hsz2⟩ := okWide_struct Try.underlying34 (hval 2 34 v2 rfl rfl)
  have k2 := h2
  have lt2 : ∀ x ∈ p2, x.block < W.heap.size := by obtain ⟨m, hm⟩ := k2; exact DataW.trod_lt m _ _ _ hm
  obtain ⟨rq2, hr2⟩ : ∃ r : Rq, cs2.toList = r.cells := by
    obtain ⟨fuel, hf⟩ := h2
    have h6 : Try.prog.cellsOf 34 = 6 := by kernel_rfl
    obtain ⟨r, h1, _⟩ := trod_req (cs := cs2.toList) (by rw [Array.length_toList, hsz2, h6]) hf
    exact ⟨r, h1⟩
  obtain rfl : cs2 = #[.int .i64 rq2.cl, .int .i64 rq2.tm, .int .i64 rq2.kd, .int .i64 rq2.ky, .int .i64 rq2.vl, .int .i64 rq2.sg] := by
    rw [← Array.toArray_toList (xs := cs2), hr2]; rfl
  clear hA0 hval0
  refine (reqsCompares_walk reqLaws rq0 rq1 rq2 W ).mono fun e W' ⟨he, bel⟩ => ?_
  subst he
  exact ⟨_, rfl, _, _, _, [], _, [], hW', trodAll_mk1 (shut_bool Try.underlying4 _), (trodAll_cons_mk (Below.trod laidOut (by kernel_rfl) (of_decide_eq_true (by kernel_rfl)) k0 bel lt0) (trodAll_cons_mk (Below.trod laidOut (by kernel_rfl) (of_decide_eq_true (by kernel_rfl)) k1 bel lt1) (trodAll_cons_mk (Below.trod laidOut (by kernel_rfl) (of_decide_eq_true (by kernel_rfl)) k2 bel lt2) trodAll_mk0))), rfl, bel.frame _, fun h => by cases h⟩
/-- The given statement. -/
theorem proved : Rows.ReqsComparesSaid :=
  OpenClaim.holds_of_wide 9 Try.f9 rfl rfl rfl rfl rfl rfl rfl ⟨rfl, rfl, rfl, rfl, rfl⟩ rfl rfl rfl rfl rfl (by kernel_rfl) Try.func9 (by kernel_rfl)
    (of_decide_eq_true (by kernel_rfl)) (by unfold Func.isWrapper; rw [if_neg (by decide +kernel)]; exact ⟨rfl, rfl⟩)
    (fun os started H enc _ => lifted os started H enc)
end Go.Proofs.Ytdopgdaobpcbjaa.reqsCompares
