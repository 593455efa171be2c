/- The contracts of reqs.Body, Sealed, Make, Batch. -/
import Derived.Test.YtdopgdaobpcbjaaReqVal
import Derived.Test.YtdopgdaobpcbjaaReqCmp
import Derived.Test.YtdopgdaobpcbjaaReqLaws
import Derived.Test.YtdopgdaobpcbjaaPack
import Derived.Test.YtdopgdaobpcbjaaNotary
import Derived.Deep.RegionHeld3
import Derived.Lib.QuietBelow
namespace Go.Proofs.Ytdopgdaobpcbjaa
open Go.RowKit Go.Sort

theorem Rq.bare_toks (r : Rq) : r.bare.toks = [.num r.cl, .num r.tm, .num r.kd, .sgn r.ky, .sgn r.vl, .num 0] := rfl
set_option maxHeartbeats 400000 in
theorem rq_body (r : Rq) (w : World) :
    Calls Try.prog 17 #[.agg #[.int .i64 r.cl, .int .i64 r.tm, .int .i64 r.kd, .int .i64 r.ky, .int .i64 r.vl, .int .i64 r.sg]] w (BytesPost r.bare.toks w) := by
  have HB := Lib.hid (fun (cs : Array Value) => show Below w.heap.size w (w.alloc (.cells cs 34)) from (Below.refl _ _).alloc (Nat.le_refl _) _)
  go_enter Try.func17, Try.ntmps17
  go_wp2_with fail
  refine (pack_req r.bare _).mono ?_
  rintro e w1 hp
  have HP := Lib.hid (hp.back (HB.out _))
  rcases hp with ⟨_, ⟨bs, A, c, _, rfl, _⟩ | ⟨_, rfl⟩⟩
  all_goals
    go_wp2_with fail
    go_ret2
    exact HP.out
theorem party_small {r : Rq} {bs : List Int} (h : bodyS r = some bs) : fit (100 + r.cl) ∧ wrap64 (100 + r.cl) = 100 + r.cl := by
  obtain ⟨h1, h2⟩ := body_small h
  exact ⟨fit_small (by omega) (by omega), by unfold wrap64; omega⟩
theorem rq_party (c : Int) (h : wrap64 (100 + c) = 100 + c) (w : World) : Calls Try.prog 45 #[.int .i64 c] w fun e w' => e = .returned (.int .i64 (100 + c)) ∧ w' = w := by
  go_enter Try.func45, Try.ntmps45
  go_wp2
  go_ret
  exact ⟨by first | rfl | (rw [h]; rfl), rfl⟩
set_option maxHeartbeats 2000000 in
theorem rq_sealed {w : World} {nb bm : Nat} {L : List Deed} (h : Nt w nb bm L) (r : Rq) (n : Int) :
    Calls Try.prog 23 #[.agg #[.int .i64 r.cl, .int .i64 r.tm, .int .i64 r.kd, .int .i64 r.ky, .int .i64 r.vl, .int .i64 r.sg], .int .i64 n, .pointer (some ⟨nb, 0, none⟩)] w fun e w' => e = .returned (.bool (sealedS r n L)) ∧ Below w.heap.size w w' := by
  have HBl := Lib.hid (fun (cs : Array Value) => show Below w.heap.size w (w.alloc (.cells cs 34)) from (Below.refl _ _).alloc (Nat.le_refl _) _)
  have HR := Lib.hid h
  have HV := Lib.hid (fun w => rq_valid r n w)
  clear h
  cases hv : validS r n
  · have HS := Lib.hid (sealedS_no (L := L) hv)
    rw [hv] at HV
    rw [HS.out]
    clear hv
    go_enter Try.func23, Try.ntmps23
    go_wp2_with fail
    refine (HV.out _).mono ?_
    rintro e w2 ⟨rfl, hb2⟩
    have HB2 := Lib.hid ((HBl.out _).trans (hb2.mono (HBl.out _).size))
    clear hb2
    go_wp2_with fail
    go_ret
    exact ⟨rfl, HB2.out⟩
  · rw [hv] at HV
    have HVv := Lib.hid hv
    clear hv
    go_enter Try.func23, Try.ntmps23
    go_wp2_with fail
    have HX := Lib.hid (show Blk (w.alloc (.cells #[.int .i64 r.cl, .int .i64 r.tm, .int .i64 r.kd, .int .i64 r.ky, .int .i64 r.vl, .int .i64 r.sg] 34)) w.heap.size 34 #[.int .i64 r.cl, .int .i64 r.tm, .int .i64 r.kd, .int .i64 r.ky, .int .i64 r.vl, .int .i64 r.sg] from Blk.new _ _ _)
    refine (HV.out _).mono ?_
    rintro e w2 ⟨rfl, hb2⟩
    have HB2 := Lib.hid ((HBl.out _).trans (hb2.mono (HBl.out _).size))
    have hx2 := HX.out.below hb2 HX.out.lt
    have HX2 := Lib.hid hx2
    have d0 := hx2.cell 0
    have d1 := hx2.cell 1
    have d2 := hx2.cell 2
    have d3 := hx2.cell 3
    have d4 := hx2.cell 4
    have d5 := hx2.cell 5
    simp only [List.getElem?_toArray, List.getElem?_cons_zero, List.getElem?_cons_succ] at d0 d1 d2 d3 d4 d5
    clear hb2 hx2 HX
    go_wp2_with fail
    refine (rq_body r _).mono ?_
    rintro e w3 hp
    have HB3 := Lib.hid (HB2.out.trans (hp.1.mono HB2.out.size))
    have hx3 := HX2.out.below hp.1 HX2.out.lt
    have e0 := hx3.cell 0
    have e5 := hx3.cell 5
    simp only [List.getElem?_toArray, List.getElem?_cons_zero, List.getElem?_cons_succ] at e0 e5
    clear hx3 d0 d1 d2 d3 d4 d5
    rcases hp with ⟨_, ⟨bs, A, c, hbs, rfl, ho⟩ | ⟨hno, rfl⟩⟩
    · have HS := Lib.hid (sealedS_some (L := L) HVv.out hbs)
      have hw64 := (party_small hbs).2
      have HP := Lib.hid (fun m => check_any ((HR.out.below HB3.out).drewN m) (p := 100 + r.cl) (k := r.sg) (c := c) (party_small hbs).1 ((Has.own ho).drewN m) rfl (by have := body_len hbs; unfold maxLen; omega))
      clear hbs ho
      go_wp2_with fail
      have KP := Lib.hid (fun w => rq_party r.cl hw64 w)
      go_region_held3 (fun w' => w'.cell? ⟨w.heap.size, 0, none⟩ = some (.int .i64 r.cl) ∧ w'.cell? ⟨w.heap.size, 5, none⟩ = some (.int .i64 r.sg)) (go_keep)
        (first | (go_at_call 44; refine (HP.out 1).mono ?_; rintro e w4 ⟨rfl, m, rfl⟩)
               | (go_at_call 45; refine (KP.out _).mono ?_; rintro e w' ⟨rfl, rfl⟩))
      go_wp2_with fail
      go_ret
      exact ⟨by rw [HS.out]; rfl, HB3.out.trans ⟨rfl, rfl, rfl, Nat.le_refl _, fun _ _ => rfl⟩⟩
    · have HS := Lib.hid (sealedS_none (L := L) (n := n) hno)
      clear hno
      go_wp2_with fail
      go_quiet (fail)
      go_wp2_with fail
      go_ret
      exact ⟨by rw [HS.out]; rfl, HB3.out.trans ⟨rfl, rfl, rfl, Nat.le_refl _, fun _ _ => rfl⟩⟩
end Go.Proofs.Ytdopgdaobpcbjaa
