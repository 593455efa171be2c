/- The walk of ReqsValid: it returns true for any request and any number. (Asks for reqs' contracts as ReqLaws.) -/
import Derived.Test.YtdopgdaobpcbjaaReqLaws
import Derived.Test.YtdopgdaobpcbjaaSame
import Derived.Deep.RegionHeld3
namespace Go.Proofs.Ytdopgdaobpcbjaa
open Go.RowKit

theorem BytesPost.got {ts : List Tok} {bs : List Int} {w w' : World} {e : Ending} (h : BytesPost ts w e w') (hb : bytesOf ts = some bs) : ∃ A c, e = .returned (.tuple #[.slice A bs.length c, .bool true]) ∧ w'.ownsRow w.heap.size 5 1 (.slice A bs.length c) bs.length (u8s bs) ∧ Below w.heap.size w w' := by
  obtain ⟨h1, ⟨b2, A, c, h2, h3, h4⟩ | ⟨h2, _⟩⟩ := h
  · rw [hb] at h2
    cases h2
    exact ⟨A, c, h3, h4, h1⟩
  · rw [hb] at h2; cases h2
theorem BytesPost.lost {ts : List Tok} {w w' : World} {e : Ending} (h : BytesPost ts w e w') (hb : bytesOf ts = none) : e = .returned (.tuple #[.slice none 0 0, .bool false]) ∧ Below w.heap.size w w' := by
  obtain ⟨h1, ⟨b2, A, c, h2, _⟩ | ⟨_, h3⟩⟩ := h
  · rw [hb] at h2; cases h2
  · exact ⟨h3, h1⟩
/-- A box with a request, that stands. -/
def Bx1 (g : Nat) (r : Rq) (w : World) : Prop := Blk w g 34 #[.int .i64 r.cl, .int .i64 r.tm, .int .i64 r.kd, .int .i64 r.ky, .int .i64 r.vl, .int .i64 r.sg]
theorem Bx1.below {g : Nat} {r : Rq} {w w' : World} (h : Bx1 g r w) (hb : Below w.heap.size w w') : Bx1 g r w' := Blk.below h hb (Blk.lt h)
theorem Bx1.drewN {g : Nat} {r : Rq} {w : World} (h : Bx1 g r w) (n : Nat) : Bx1 g r (w.drewN n) := h
theorem Bx1.cells1 {g : Nat} {r : Rq} {w : World} (h : Bx1 g r w) : w.cell? ⟨g, 0, none⟩ = some (.int .i64 r.cl) ∧ w.cell? ⟨g, 1, none⟩ = some (.int .i64 r.tm) ∧ w.cell? ⟨g, 2, none⟩ = some (.int .i64 r.kd) ∧ w.cell? ⟨g, 3, none⟩ = some (.int .i64 r.ky) ∧ w.cell? ⟨g, 4, none⟩ = some (.int .i64 r.vl) ∧ w.cell? ⟨g, 5, none⟩ = some (.int .i64 r.sg) := ⟨Blk.cell h 0, Blk.cell h 1, Blk.cell h 2, Blk.cell h 3, Blk.cell h 4, Blk.cell h 5⟩
set_option maxHeartbeats 4000000 in
set_option maxRecDepth 100000 in
theorem reqsValid_walk (M : ReqLaws) (r : Rq) (n : Int) (w : World) (_w1 : (Lit.int .i64 n).wf = true) :
    Calls Try.prog 4 #[.agg #[.int .i64 r.cl, .int .i64 r.tm, .int .i64 r.kd, .int .i64 r.ky, .int .i64 r.vl, .int .i64 r.sg], .int .i64 n] w fun e w' => e = .returned (.bool true) ∧ Below w.heap.size w w' := by
  have HM := Lib.hid M
  clear M
  go_enter Try.func4, Try.ntmps4
  go_wp2_with fail
  have HX1 := Lib.hid (show Bx1 w.heap.size r (w.alloc (.cells #[.int .i64 r.cl, .int .i64 r.tm, .int .i64 r.kd, .int .i64 r.ky, .int .i64 r.vl, .int .i64 r.sg] 34)) from Blk.new _ _ _)
  have HL1 := Lib.hid (show Below w.heap.size w (w.alloc (.cells #[.int .i64 r.cl, .int .i64 r.tm, .int .i64 r.kd, .int .i64 r.ky, .int .i64 r.vl, .int .i64 r.sg] 34)) from (Below.refl _ _).alloc (Nat.le_refl _) _)
  obtain ⟨w1, hw1⟩ : ∃ w1, w.alloc (.cells #[.int .i64 r.cl, .int .i64 r.tm, .int .i64 r.kd, .int .i64 r.ky, .int .i64 r.vl, .int .i64 r.sg] 34) = w1 := ⟨_, rfl⟩
  rw [hw1] at HX1 HL1 ⊢
  clear hw1
  obtain ⟨g, hg⟩ : ∃ g, w.heap.size = g := ⟨_, rfl⟩
  have HG := Lib.hid hg
  rw [hg] at HX1 ⊢
  clear hg
  cases hb : bodyS r with
  | some bs =>
    have HBs := Lib.hid hb
    have HSm := Lib.hid (fun (A1 A2 : Option Addr) (c1 c2 B : Nat) => same_is (A := A1) (A' := A2) (c := c1) (c' := c2) (B := B) (zs := bs) (ys := bs) rfl rfl (by have := body_len hb; omega) (show sameB bs bs = true by simp [sameB]))
    clear hb
    refine (HM.out.body r _).mono ?_
    rintro e w2 hp
    obtain ⟨A1, c1, rfl, ho2, hb2⟩ := hp.got HBs.out
    have HX2 := Lib.hid (HX1.out.below hb2)
    have HL2 := Lib.hid (HL1.out.trans (hb2.mono HL1.out.size))
    have HA2 := Lib.hid (Has.own ho2)
    clear hb2 ho2 hp
    obtain ⟨c0, c1_, c2_, c3_, c4_, c5_⟩ := HX2.out.cells1
    go_wp2_with fail
    refine (rbody_any r _).mono ?_
    rintro e w3 hp
    obtain ⟨A2, c2, rfl, ho3, hb3⟩ := hp.got HBs.out
    have HX3 := Lib.hid (HX2.out.below hb3)
    have HL3 := Lib.hid (HL2.out.trans (hb3.mono HL2.out.size))
    have HA3 := Lib.hid ((HA2.out.below hb3 (Nat.le_refl _)).more hb3.size)
    have HB3 := Lib.hid (Has.own ho3)
    clear hb3 ho3 hp c0 c1_ c2_ c3_ c4_ c5_ HX2 HL2 HA2
    obtain ⟨v, hv⟩ : ∃ v, validS r n = v := ⟨_, rfl⟩
    have HV := Lib.hid (fun w => HM.out.valid r n w)
    have HRV := Lib.hid (fun w => rvalid_any r n w)
    rw [hv] at HV HRV
    clear hv
    have hc0 := HX3.out.cells1
    cases v
    all_goals
      go_wp2_with fail
      go_region_held3 (fun w' => w'.cell? ⟨g, 0, none⟩ = some (.int .i64 r.cl) ∧ w'.cell? ⟨g, 1, none⟩ = some (.int .i64 r.tm) ∧ w'.cell? ⟨g, 2, none⟩ = some (.int .i64 r.kd) ∧ w'.cell? ⟨g, 3, none⟩ = some (.int .i64 r.ky) ∧ w'.cell? ⟨g, 4, none⟩ = some (.int .i64 r.vl) ∧ w'.cell? ⟨g, 5, none⟩ = some (.int .i64 r.sg))
        (first | exact hc0 | exact hc1 | exact hc2 | exact hc3 | exact hc4 | go_keep)
        (first | (go_at_call 19; (with_reducible refine (HV.out _).mono ?_); rintro e wa ⟨rfl, hba⟩; have hc1 := (Bx1.below (show Bx1 g r w3.drew from HX3.out) hba).cells1)
               | (go_at_call 20; (with_reducible refine (HRV.out _).mono ?_); rintro e wb ⟨rfl, hbb⟩; have hc2 := (Bx1.below (Bx1.below (show Bx1 g r w3.drew from HX3.out) hba) hbb).cells1)
               | (go_at_call 14; (with_reducible refine (wakes5_any HM.out _).mono ?_); rintro e wd ⟨rfl, hbd⟩; have hc4 := (Bx1.below (Bx1.drewN (Bx1.below (Bx1.below (show Bx1 g r w3.drew from HX3.out) hba) hbb) nq) hbd).cells1)
               | (go_at_call 21; have k1 := (Has.below (Has.below (show Has w3.drew w3.heap.size A1 (u8s bs) from HA3.out) hba (Nat.le_refl _)) hbb hba.size); have k2 := (Has.below (Has.below (show Has w3.drew w3.heap.size A2 (u8s bs) from HB3.out) hba (Nat.le_refl _)) hbb hba.size); (with_reducible refine (HSm.out A1 A2 c1 c2 _ wb k1 k2).mono ?_); rintro e wc ⟨rfl, nq, rfl⟩; have hc3 := (Bx1.drewN (Bx1.below (Bx1.below (show Bx1 g r w3.drew from HX3.out) hba) hbb) nq).cells1))
      have HLd := Lib.hid (show Below w.heap.size w wd from by
        have h0 : Below w.heap.size w w3.drew := HL3.out.trans ⟨rfl, rfl, rfl, Nat.le_refl _, fun _ _ => rfl⟩
        have h1 := h0.trans (hba.mono h0.size)
        have h2 := h1.trans (hbb.mono h1.size)
        have h3 : Below w.heap.size w (wb.drewN nq) := h2.trans ⟨rfl, rfl, rfl, Nat.le_refl _, fun _ _ => rfl⟩
        exact h3.trans (hbd.mono h3.size))
      clear hc0 hc1 hc2 hc3 hc4 hba hbb hbd
      go_wp2_with fail
      go_ret
      exact ⟨rfl, HLd.out⟩
  | none =>
    have HBs := Lib.hid hb
    have HSm := Lib.hid (fun (A1 A2 : Option Addr) (c1 c2 B : Nat) => same_is (la := 0) (lb := 0) (A := A1) (A' := A2) (c := c1) (c' := c2) (B := B) (zs := []) (ys := []) rfl rfl (by simp) (show sameB [] [] = true by simp [sameB]))
    clear hb
    refine (HM.out.body r _).mono ?_
    rintro e w2 hp
    obtain ⟨rfl, hb2⟩ := hp.lost HBs.out
    have HX2 := Lib.hid (HX1.out.below hb2)
    have HL2 := Lib.hid (HL1.out.trans (hb2.mono HL1.out.size))
    clear hb2 hp
    obtain ⟨c0, c1_, c2_, c3_, c4_, c5_⟩ := HX2.out.cells1
    go_wp2_with fail
    refine (rbody_any r _).mono ?_
    rintro e w3 hp
    obtain ⟨rfl, hb3⟩ := hp.lost HBs.out
    have HX3 := Lib.hid (HX2.out.below hb3)
    have HL3 := Lib.hid (HL2.out.trans (hb3.mono HL2.out.size))
    clear hb3 hp c0 c1_ c2_ c3_ c4_ c5_ HX2 HL2
    obtain ⟨v, hv⟩ : ∃ v, validS r n = v := ⟨_, rfl⟩
    have HV := Lib.hid (fun w => HM.out.valid r n w)
    have HRV := Lib.hid (fun w => rvalid_any r n w)
    rw [hv] at HV HRV
    clear hv
    have hc0 := HX3.out.cells1
    cases v
    all_goals
      go_wp2_with fail
      go_region_held3 (fun w' => w'.cell? ⟨g, 0, none⟩ = some (.int .i64 r.cl) ∧ w'.cell? ⟨g, 1, none⟩ = some (.int .i64 r.tm) ∧ w'.cell? ⟨g, 2, none⟩ = some (.int .i64 r.kd) ∧ w'.cell? ⟨g, 3, none⟩ = some (.int .i64 r.ky) ∧ w'.cell? ⟨g, 4, none⟩ = some (.int .i64 r.vl) ∧ w'.cell? ⟨g, 5, none⟩ = some (.int .i64 r.sg))
        (first | exact hc0 | exact hc1 | exact hc2 | exact hc3 | exact hc4 | go_keep)
        (first | (go_at_call 19; (with_reducible refine (HV.out _).mono ?_); rintro e wa ⟨rfl, hba⟩; have hc1 := (Bx1.below (show Bx1 g r w3.drew from HX3.out) hba).cells1)
               | (go_at_call 20; (with_reducible refine (HRV.out _).mono ?_); rintro e wb ⟨rfl, hbb⟩; have hc2 := (Bx1.below (Bx1.below (show Bx1 g r w3.drew from HX3.out) hba) hbb).cells1)
               | (go_at_call 14; (with_reducible refine (wakes5_any HM.out _).mono ?_); rintro e wd ⟨rfl, hbd⟩; have hc4 := (Bx1.below (Bx1.drewN (Bx1.below (Bx1.below (show Bx1 g r w3.drew from HX3.out) hba) hbb) nq) hbd).cells1)
               | (go_at_call 21; have k1 := (Has.below (Has.below (show Has w3.drew w3.heap.size none (u8s []) from Has.nil _ _ _) hba (Nat.le_refl _)) hbb hba.size); have k2 := (Has.below (Has.below (show Has w3.drew w3.heap.size none (u8s []) from Has.nil _ _ _) hba (Nat.le_refl _)) hbb hba.size); (with_reducible refine (HSm.out none none 0 0 _ wb k1 k2).mono ?_); rintro e wc ⟨rfl, nq, rfl⟩; have hc3 := (Bx1.drewN (Bx1.below (Bx1.below (show Bx1 g r w3.drew from HX3.out) hba) hbb) nq).cells1))
      have HLd := Lib.hid (show Below w.heap.size w wd from by
        have h0 : Below w.heap.size w w3.drew := HL3.out.trans ⟨rfl, rfl, rfl, Nat.le_refl _, fun _ _ => rfl⟩
        have h1 := h0.trans (hba.mono h0.size)
        have h2 := h1.trans (hbb.mono h1.size)
        have h3 : Below w.heap.size w (wb.drewN nq) := h2.trans ⟨rfl, rfl, rfl, Nat.le_refl _, fun _ _ => rfl⟩
        exact h3.trans (hbd.mono h3.size))
      clear hc0 hc1 hc2 hc3 hc4 hba hbb hbd
      go_wp2_with fail
      go_ret
      exact ⟨rfl, HLd.out⟩
end Go.Proofs.Ytdopgdaobpcbjaa
