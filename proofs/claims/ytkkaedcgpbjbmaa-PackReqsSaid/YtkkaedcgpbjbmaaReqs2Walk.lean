/- The walk of PackReqs: it returns true for any request and any requests. -/
import Derived.Test.YtkkaedcgpbjbmaaBoth
import Derived.Test.YtkkaedcgpbjbmaaSameCerts
namespace Go.Proofs.Ytkkaedcgpbjbmaa
open Go.RowKit

set_option maxHeartbeats 4000000 in
set_option maxRecDepth 100000 in
theorem packReqs_main (r : Rq) (A : Option Addr) (c : Nat) (l : List Rq) (w : World) (hh : Has w w.heap.size A (reqCells l)) (hl : l.length ≤ 300) :
    Calls Try.prog 6 #[.agg #[.int .i64 r.cl, .int .i64 r.tm, .int .i64 r.kd, .int .i64 r.ky, .int .i64 r.vl, .int .i64 r.sg], .slice A l.length c] w fun e w' => e = .returned (.bool true) ∧ Below w.heap.size w w' := by
  have hts := reqs_toks l
  have hsz : 6 * (listToks Rq.toks l).length ≤ 70368744177664 := by omega
  have HSz := Lib.hid hsz
  have HTs := Lib.hid hts
  have HBx := Lib.hid (Blk.new w 31 #[.int .i64 r.cl, .int .i64 r.tm, .int .i64 r.kd, .int .i64 r.ky, .int .i64 r.vl, .int .i64 r.sg])
  have HH := Lib.hid ((hh.below ((Below.refl w.heap.size w).alloc (Nat.le_refl _) (.cells #[.int .i64 r.cl, .int .i64 r.tm, .int .i64 r.kd, .int .i64 r.ky, .int .i64 r.vl, .int .i64 r.sg] 31)) (Nat.le_refl _)).more (show w.heap.size ≤ w.heap.size + 1 from Nat.le_succ _))
  have HBelow := Lib.hid ((Below.refl w.heap.size w).alloc (Nat.le_refl _) (.cells #[.int .i64 r.cl, .int .i64 r.tm, .int .i64 r.kd, .int .i64 r.ky, .int .i64 r.vl, .int .i64 r.sg] 31))
  obtain ⟨W0, hW0⟩ : ∃ W0, w.alloc (.cells #[.int .i64 r.cl, .int .i64 r.tm, .int .i64 r.kd, .int .i64 r.ky, .int .i64 r.vl, .int .i64 r.sg] 31) = W0 := ⟨_, rfl⟩
  have hs0 : W0.heap.size = w.heap.size + 1 := by rw [← hW0]; simp
  rw [hW0] at HBx HH HBelow
  have HW0 := Lib.hid hW0
  rw [← hs0] at HH
  have HS0 := Lib.hid hs0
  have hb0 := Below.refl W0.heap.size W0
  have hlt0 : w.heap.size < W0.heap.size := by omega
  clear hh hsz hts hs0 hW0
  rcases hra : bytesOf r.toks with _ | ba
  · have HRA := Lib.hid hra
    clear hra
    rcases hrc : bytesOf (listToks Rq.toks l) with _ | bc
    · have HRC := Lib.hid hrc
      clear hrc
      go_enter Try.func6, Try.ntmps6
      go_wp2_with fail
      rw [HW0.out]
      refine (pack_req r _).mono ?_
      rintro e w1 h
      obtain ⟨rfl, hb1⟩ := h.no HRA.out
      clear h
      have hbx := HBx.out.below hb1 hlt0
      have bx0 : w1.cell? ⟨w.heap.size, 0, none⟩ = some (.int .i64 r.cl) := hbx.cell 0
      have bx1 : w1.cell? ⟨w.heap.size, 1, none⟩ = some (.int .i64 r.tm) := hbx.cell 1
      have bx2 : w1.cell? ⟨w.heap.size, 2, none⟩ = some (.int .i64 r.kd) := hbx.cell 2
      have bx3 : w1.cell? ⟨w.heap.size, 3, none⟩ = some (.int .i64 r.ky) := hbx.cell 3
      have bx4 : w1.cell? ⟨w.heap.size, 4, none⟩ = some (.int .i64 r.vl) := hbx.cell 4
      have bx5 : w1.cell? ⟨w.heap.size, 5, none⟩ = some (.int .i64 r.sg) := hbx.cell 5
      clear hbx
      go_wp2_with fail
      refine (ref_req r _).mono ?_
      rintro e w2 h
      obtain ⟨rfl, hb2⟩ := h.no HRA.out
      clear h
      clear bx0 bx1 bx2 bx3 bx4 bx5
      have hc2 := hb1.trans (hb2.mono hb1.size)
      go_wp2_with fail
      refine (pack_batch l A c _ ((HH.out.below hc2 (Nat.le_refl _)).more hc2.size) HSz.out).mono ?_
      rintro e w3 h
      obtain ⟨rfl, hb3⟩ := h.no HRC.out
      clear h
      have hc3 := hc2.trans (hb3.mono hc2.size)
      go_wp2_with fail
      refine (ref_batch l A c _ ((HH.out.below hc3 (Nat.le_refl _)).more hc3.size) HSz.out).mono ?_
      rintro e w4 h
      obtain ⟨rfl, hb4⟩ := h.no HRC.out
      clear h
      have hc4 := hc3.trans (hb4.mono hc3.size)
      go_wp2_with fail
      refine (same_law_no _).mono ?_
      rintro e w5 ⟨rfl, hb5⟩
      have hc5 := hc4.trans (hb5.mono hc4.size)
      go_wp2_with fail
      refine (same_law_no _).mono ?_
      rintro e w6 ⟨rfl, hb6⟩
      have hc6 := hc5.trans (hb6.mono hc5.size)
      go_wp2_with fail
      refine (wakes_any _).mono ?_
      rintro e wz ⟨rfl, hbz⟩
      go_wp2_with fail
      go_ret
      exact ⟨rfl, HBelow.out.trans ((hc6.mono (Nat.le_of_lt hlt0)).trans (hbz.mono (by have := hc6.size; omega)))⟩
    · have HRC := Lib.hid hrc
      have hlc := bytesOf_len hrc
      rw [HTs.out] at hlc
      have HUc := Lib.hid (bytesOf_u8 hrc)
      clear hrc
      go_enter Try.func6, Try.ntmps6
      go_wp2_with fail
      rw [HW0.out]
      refine (pack_req r _).mono ?_
      rintro e w1 h
      obtain ⟨rfl, hb1⟩ := h.no HRA.out
      clear h
      have hbx := HBx.out.below hb1 hlt0
      have bx0 : w1.cell? ⟨w.heap.size, 0, none⟩ = some (.int .i64 r.cl) := hbx.cell 0
      have bx1 : w1.cell? ⟨w.heap.size, 1, none⟩ = some (.int .i64 r.tm) := hbx.cell 1
      have bx2 : w1.cell? ⟨w.heap.size, 2, none⟩ = some (.int .i64 r.kd) := hbx.cell 2
      have bx3 : w1.cell? ⟨w.heap.size, 3, none⟩ = some (.int .i64 r.ky) := hbx.cell 3
      have bx4 : w1.cell? ⟨w.heap.size, 4, none⟩ = some (.int .i64 r.vl) := hbx.cell 4
      have bx5 : w1.cell? ⟨w.heap.size, 5, none⟩ = some (.int .i64 r.sg) := hbx.cell 5
      clear hbx
      go_wp2_with fail
      refine (ref_req r _).mono ?_
      rintro e w2 h
      obtain ⟨rfl, hb2⟩ := h.no HRA.out
      clear h
      clear bx0 bx1 bx2 bx3 bx4 bx5
      have hc2 := hb1.trans (hb2.mono hb1.size)
      go_wp2_with fail
      refine (pack_batch l A c _ ((HH.out.below hc2 (Nat.le_refl _)).more hc2.size) HSz.out).mono ?_
      rintro e w3 h
      obtain ⟨A3, d3, rfl, hA3, _, _, hb3⟩ := h.yes HRC.out
      clear h
      have HA3 := Lib.hid hA3
      clear hA3
      have hc3 := hc2.trans (hb3.mono hc2.size)
      go_wp2_with fail
      refine (ref_batch l A c _ ((HH.out.below hc3 (Nat.le_refl _)).more hc3.size) HSz.out).mono ?_
      rintro e w4 h
      obtain ⟨A4, d4, rfl, hA4, _, _, hb4⟩ := h.yes HRC.out
      clear h
      have HA4 := Lib.hid hA4
      clear hA4
      have hc4 := hc3.trans (hb4.mono hc3.size)
      have HA3b := Lib.hid ((HA3.out.below hb4 (Nat.le_refl _)).more hb4.size)
      go_wp2_with fail
      refine (same_law_no _).mono ?_
      rintro e w5 ⟨rfl, hb5⟩
      have hc5 := hc4.trans (hb5.mono hc4.size)
      have HA3c := Lib.hid ((HA3b.out.below hb5 (Nat.le_refl _)).more hb5.size)
      have HA4c := Lib.hid ((HA4.out.below hb5 (Nat.le_refl _)).more hb5.size)
      go_wp2_with fail
      refine (same_law_yes _ _ _ _ _ bc (by omega) _ HA3c.out HA4c.out).mono ?_
      rintro e w6 ⟨rfl, hb6⟩
      have hc6 := hc5.trans (hb6.mono hc5.size)
      have HA3e := Lib.hid ((HA3c.out.below hb6 (Nat.le_refl _)).more hb6.size)
      have HTc := Lib.hid (taken0 (f := tkBatch) tells_batch HRC.out)
      go_wp2_with fail
      refine (take_batch_yes rfl HTc.out (by omega) (by omega) HUc.out _ (Nat.le_refl _) HA3e.out).mono ?_
      rintro e w8 ⟨A5, d5, rfl, hk5, hl5, ho5, hb8⟩
      have hc8 := hc6.trans (hb8.mono hc6.size)
      have HA5 := Lib.hid (Has.ownS ho5)
      clear ho5
      go_wp2_with fail
      refine (same_reqs_is rfl rfl (by omega) (sameL_true.2 rfl) _ HA5.out ((HH.out.below hc8 (Nat.le_refl _)).more hc8.size)).mono ?_
      rintro e w9 ⟨rfl, nq, rfl⟩
      have hc9 := below_drewN hc8 nq
      go_wp2_with fail
      refine (wakes_any _).mono ?_
      rintro e wz ⟨rfl, hbz⟩
      go_wp2_with fail
      go_ret
      exact ⟨rfl, HBelow.out.trans ((hc9.mono (Nat.le_of_lt hlt0)).trans (hbz.mono (by have := hc9.size; omega)))⟩
  · have HRA := Lib.hid hra
    clear hra
    rcases hrc : bytesOf (listToks Rq.toks l) with _ | bc
    · have HRC := Lib.hid hrc
      have hla := bytesOf_len HRA.out
      rw [show r.toks.length = 6 from rfl] at hla
      have HUa := Lib.hid (bytesOf_u8 HRA.out)
      clear hrc
      go_enter Try.func6, Try.ntmps6
      go_wp2_with fail
      rw [HW0.out]
      refine (pack_req r _).mono ?_
      rintro e w1 h
      obtain ⟨A1, d1, rfl, hA1, _, _, hb1⟩ := h.yes HRA.out
      clear h
      have HA1 := Lib.hid hA1
      clear hA1
      have hbx := HBx.out.below hb1 hlt0
      have bx0 : w1.cell? ⟨w.heap.size, 0, none⟩ = some (.int .i64 r.cl) := hbx.cell 0
      have bx1 : w1.cell? ⟨w.heap.size, 1, none⟩ = some (.int .i64 r.tm) := hbx.cell 1
      have bx2 : w1.cell? ⟨w.heap.size, 2, none⟩ = some (.int .i64 r.kd) := hbx.cell 2
      have bx3 : w1.cell? ⟨w.heap.size, 3, none⟩ = some (.int .i64 r.ky) := hbx.cell 3
      have bx4 : w1.cell? ⟨w.heap.size, 4, none⟩ = some (.int .i64 r.vl) := hbx.cell 4
      have bx5 : w1.cell? ⟨w.heap.size, 5, none⟩ = some (.int .i64 r.sg) := hbx.cell 5
      clear hbx
      go_wp2_with fail
      refine (ref_req r _).mono ?_
      rintro e w2 h
      obtain ⟨A2, d2, rfl, hA2, _, _, hb2⟩ := h.yes HRA.out
      clear h
      have HA2 := Lib.hid hA2
      clear hA2
      clear bx0 bx1 bx2 bx3 bx4 bx5
      have hc2 := hb1.trans (hb2.mono hb1.size)
      go_wp2_with fail
      refine (pack_batch l A c _ ((HH.out.below hc2 (Nat.le_refl _)).more hc2.size) HSz.out).mono ?_
      rintro e w3 h
      obtain ⟨rfl, hb3⟩ := h.no HRC.out
      clear h
      have hc3 := hc2.trans (hb3.mono hc2.size)
      go_wp2_with fail
      refine (ref_batch l A c _ ((HH.out.below hc3 (Nat.le_refl _)).more hc3.size) HSz.out).mono ?_
      rintro e w4 h
      obtain ⟨rfl, hb4⟩ := h.no HRC.out
      clear h
      have hc4 := hc3.trans (hb4.mono hc3.size)
      have HA1b := Lib.hid (((((HA1.out.below hb2 (Nat.le_refl _)).more hb2.size).below hb3 (Nat.le_refl _)).more hb3.size |>.below hb4 (Nat.le_refl _)).more hb4.size)
      have HA2b := Lib.hid ((((HA2.out.below hb3 (Nat.le_refl _)).more hb3.size).below hb4 (Nat.le_refl _)).more hb4.size)
      go_wp2_with fail
      refine (same_law_yes _ _ _ _ _ ba (by omega) _ HA1b.out HA2b.out).mono ?_
      rintro e w5 ⟨rfl, hb5⟩
      have hc5 := hc4.trans (hb5.mono hc4.size)
      have HA1c := Lib.hid ((HA1b.out.below hb5 (Nat.le_refl _)).more hb5.size)
      go_wp2_with fail
      refine (same_law_no _).mono ?_
      rintro e w6 ⟨rfl, hb6⟩
      have hc6 := hc5.trans (hb6.mono hc5.size)
      have HA1d := Lib.hid ((HA1c.out.below hb6 (Nat.le_refl _)).more hb6.size)
      have HTk := Lib.hid (taken0 (f := tkReq) tells_req HRA.out)
      go_wp2_with fail
      refine (take_req_yes rfl HTk.out (by omega) (by omega) HUa.out _ (Nat.le_refl _) HA1d.out).mono ?_
      rintro e w7 ⟨rfl, hb7⟩
      have hc7 := hc6.trans (hb7.mono hc6.size)
      have hbx := HBx.out.below hc7 hlt0
      have bx0 : w7.cell? ⟨w.heap.size, 0, none⟩ = some (.int .i64 r.cl) := hbx.cell 0
      have bx1 : w7.cell? ⟨w.heap.size, 1, none⟩ = some (.int .i64 r.tm) := hbx.cell 1
      have bx2 : w7.cell? ⟨w.heap.size, 2, none⟩ = some (.int .i64 r.kd) := hbx.cell 2
      have bx3 : w7.cell? ⟨w.heap.size, 3, none⟩ = some (.int .i64 r.ky) := hbx.cell 3
      have bx4 : w7.cell? ⟨w.heap.size, 4, none⟩ = some (.int .i64 r.vl) := hbx.cell 4
      have bx5 : w7.cell? ⟨w.heap.size, 5, none⟩ = some (.int .i64 r.sg) := hbx.cell 5
      clear hbx
      have hltw : w.heap.size < w7.heap.size := by have := hc7.size; omega
      have G := fun (w : World) => guard_req .neq (.tmp 67) (.tmp 68) #[.int .i64 r.cl, .int .i64 r.tm, .int .i64 r.kd, .int .i64 r.ky, .int .i64 r.vl, .int .i64 r.sg] #[.int .i64 r.cl, .int .i64 r.tm, .int .i64 r.kd, .int .i64 r.ky, .int .i64 r.vl, .int .i64 r.sg] w
      have Ne := fun (w : World) => neq_req (x := r) (y := r) (r := false) (by simp) w
      have hc7a := hc7.alloc hc7.size (.cells #[.int .i64 r.cl, .int .i64 r.tm, .int .i64 r.kd, .int .i64 r.ky, .int .i64 r.vl, .int .i64 r.sg] 31)
      go_wp2_with fail
      refine (wakes_any _).mono ?_
      rintro e wz ⟨rfl, hbz⟩
      go_wp2_with fail
      go_ret
      exact ⟨rfl, HBelow.out.trans ((hc7a.mono (Nat.le_of_lt hlt0)).trans (hbz.mono (by have := hc7a.size; omega)))⟩
    · have HRC := Lib.hid hrc
      have hla := bytesOf_len HRA.out
      rw [show r.toks.length = 6 from rfl] at hla
      have HUa := Lib.hid (bytesOf_u8 HRA.out)
      have hlc := bytesOf_len hrc
      rw [HTs.out] at hlc
      have HUc := Lib.hid (bytesOf_u8 hrc)
      clear hrc
      go_enter Try.func6, Try.ntmps6
      go_wp2_with fail
      rw [HW0.out]
      refine (pack_req r _).mono ?_
      rintro e w1 h
      obtain ⟨A1, d1, rfl, hA1, _, _, hb1⟩ := h.yes HRA.out
      clear h
      have HA1 := Lib.hid hA1
      clear hA1
      have hbx := HBx.out.below hb1 hlt0
      have bx0 : w1.cell? ⟨w.heap.size, 0, none⟩ = some (.int .i64 r.cl) := hbx.cell 0
      have bx1 : w1.cell? ⟨w.heap.size, 1, none⟩ = some (.int .i64 r.tm) := hbx.cell 1
      have bx2 : w1.cell? ⟨w.heap.size, 2, none⟩ = some (.int .i64 r.kd) := hbx.cell 2
      have bx3 : w1.cell? ⟨w.heap.size, 3, none⟩ = some (.int .i64 r.ky) := hbx.cell 3
      have bx4 : w1.cell? ⟨w.heap.size, 4, none⟩ = some (.int .i64 r.vl) := hbx.cell 4
      have bx5 : w1.cell? ⟨w.heap.size, 5, none⟩ = some (.int .i64 r.sg) := hbx.cell 5
      clear hbx
      go_wp2_with fail
      refine (ref_req r _).mono ?_
      rintro e w2 h
      obtain ⟨A2, d2, rfl, hA2, _, _, hb2⟩ := h.yes HRA.out
      clear h
      have HA2 := Lib.hid hA2
      clear hA2
      clear bx0 bx1 bx2 bx3 bx4 bx5
      have hc2 := hb1.trans (hb2.mono hb1.size)
      go_wp2_with fail
      refine (pack_batch l A c _ ((HH.out.below hc2 (Nat.le_refl _)).more hc2.size) HSz.out).mono ?_
      rintro e w3 h
      obtain ⟨A3, d3, rfl, hA3, _, _, hb3⟩ := h.yes HRC.out
      clear h
      have HA3 := Lib.hid hA3
      clear hA3
      have hc3 := hc2.trans (hb3.mono hc2.size)
      go_wp2_with fail
      refine (ref_batch l A c _ ((HH.out.below hc3 (Nat.le_refl _)).more hc3.size) HSz.out).mono ?_
      rintro e w4 h
      obtain ⟨A4, d4, rfl, hA4, _, _, hb4⟩ := h.yes HRC.out
      clear h
      have HA4 := Lib.hid hA4
      clear hA4
      have hc4 := hc3.trans (hb4.mono hc3.size)
      have HA1b := Lib.hid (((((HA1.out.below hb2 (Nat.le_refl _)).more hb2.size).below hb3 (Nat.le_refl _)).more hb3.size |>.below hb4 (Nat.le_refl _)).more hb4.size)
      have HA2b := Lib.hid ((((HA2.out.below hb3 (Nat.le_refl _)).more hb3.size).below hb4 (Nat.le_refl _)).more hb4.size)
      have HA3b := Lib.hid ((HA3.out.below hb4 (Nat.le_refl _)).more hb4.size)
      go_wp2_with fail
      refine (same_law_yes _ _ _ _ _ ba (by omega) _ HA1b.out HA2b.out).mono ?_
      rintro e w5 ⟨rfl, hb5⟩
      have hc5 := hc4.trans (hb5.mono hc4.size)
      have HA3c := Lib.hid ((HA3b.out.below hb5 (Nat.le_refl _)).more hb5.size)
      have HA4c := Lib.hid ((HA4.out.below hb5 (Nat.le_refl _)).more hb5.size)
      have HA1c := Lib.hid ((HA1b.out.below hb5 (Nat.le_refl _)).more hb5.size)
      go_wp2_with fail
      refine (same_law_yes _ _ _ _ _ bc (by omega) _ HA3c.out HA4c.out).mono ?_
      rintro e w6 ⟨rfl, hb6⟩
      have hc6 := hc5.trans (hb6.mono hc5.size)
      have HA1d := Lib.hid ((HA1c.out.below hb6 (Nat.le_refl _)).more hb6.size)
      have HTk := Lib.hid (taken0 (f := tkReq) tells_req HRA.out)
      go_wp2_with fail
      refine (take_req_yes rfl HTk.out (by omega) (by omega) HUa.out _ (Nat.le_refl _) HA1d.out).mono ?_
      rintro e w7 ⟨rfl, hb7⟩
      have hc7 := hc6.trans (hb7.mono hc6.size)
      have hbx := HBx.out.below hc7 hlt0
      have bx0 : w7.cell? ⟨w.heap.size, 0, none⟩ = some (.int .i64 r.cl) := hbx.cell 0
      have bx1 : w7.cell? ⟨w.heap.size, 1, none⟩ = some (.int .i64 r.tm) := hbx.cell 1
      have bx2 : w7.cell? ⟨w.heap.size, 2, none⟩ = some (.int .i64 r.kd) := hbx.cell 2
      have bx3 : w7.cell? ⟨w.heap.size, 3, none⟩ = some (.int .i64 r.ky) := hbx.cell 3
      have bx4 : w7.cell? ⟨w.heap.size, 4, none⟩ = some (.int .i64 r.vl) := hbx.cell 4
      have bx5 : w7.cell? ⟨w.heap.size, 5, none⟩ = some (.int .i64 r.sg) := hbx.cell 5
      clear hbx
      have hltw : w.heap.size < w7.heap.size := by have := hc7.size; omega
      have G := fun (w : World) => guard_req .neq (.tmp 67) (.tmp 68) #[.int .i64 r.cl, .int .i64 r.tm, .int .i64 r.kd, .int .i64 r.ky, .int .i64 r.vl, .int .i64 r.sg] #[.int .i64 r.cl, .int .i64 r.tm, .int .i64 r.kd, .int .i64 r.ky, .int .i64 r.vl, .int .i64 r.sg] w
      have Ne := fun (w : World) => neq_req (x := r) (y := r) (r := false) (by simp) w
      have hc7a := hc7.alloc hc7.size (.cells #[.int .i64 r.cl, .int .i64 r.tm, .int .i64 r.kd, .int .i64 r.ky, .int .i64 r.vl, .int .i64 r.sg] 31)
      have HA3d := Lib.hid ((((HA3c.out.below hb6 (Nat.le_refl _)).more hb6.size).below hb7 (Nat.le_refl _)).more hb7.size)
      have HA3e := Lib.hid ((HA3d.out.below ((Below.refl w7.heap.size w7).alloc (Nat.le_refl _) (.cells #[.int .i64 r.cl, .int .i64 r.tm, .int .i64 r.kd, .int .i64 r.ky, .int .i64 r.vl, .int .i64 r.sg] 31)) (Nat.le_refl _)).more (Nat.le_succ _))
      have hs8 : (w7.alloc (.cells #[.int .i64 r.cl, .int .i64 r.tm, .int .i64 r.kd, .int .i64 r.ky, .int .i64 r.vl, .int .i64 r.sg] 31)).heap.size = w7.heap.size + 1 := by simp
      have HS8 := Lib.hid hs8
      clear hs8
      have HTc := Lib.hid (taken0 (f := tkBatch) tells_batch HRC.out)
      go_wp2_with fail
      clear bx0 bx1 bx2 bx3 bx4 bx5
      clear G Ne
      refine (take_batch_yes rfl HTc.out (by omega) (by omega) HUc.out _ (by rw [HS8.out]; exact Nat.le_refl _) HA3e.out).mono ?_
      rintro e w8 ⟨A5, d5, rfl, hk5, hl5, ho5, hb8⟩
      have hc8 := hc7a.trans (hb8.mono hc7a.size)
      have HA5 := Lib.hid (Has.ownS ho5)
      clear ho5
      go_wp2_with fail
      refine (same_reqs_is rfl rfl (by omega) (sameL_true.2 rfl) _ HA5.out ((HH.out.below hc8 (Nat.le_refl _)).more hc8.size)).mono ?_
      rintro e w9 ⟨rfl, nq, rfl⟩
      have hc9 := below_drewN hc8 nq
      go_wp2_with fail
      refine (wakes_any _).mono ?_
      rintro e wz ⟨rfl, hbz⟩
      go_wp2_with fail
      go_ret
      exact ⟨rfl, HBelow.out.trans ((hc9.mono (Nat.le_of_lt hlt0)).trans (hbz.mono (by have := hc9.size; omega)))⟩

set_option maxHeartbeats 400000 in
theorem packReqs_walk (r : Rq) (A : Option Addr) (c : Nat) (l : List Rq) (w : World) (w1 : IsReqs w A l c) :
    Calls Try.prog 6 #[.agg #[.int .i64 r.cl, .int .i64 r.tm, .int .i64 r.kd, .int .i64 r.ky, .int .i64 r.vl, .int .i64 r.sg], .slice A l.length c] w fun e w' => e = .returned (.bool true) ∧ Below w.heap.size w w' := by
  by_cases hl : l.length ≤ 300
  · exact packReqs_main r A c l w w1.has hl
  · have hl2 : 300 < l.length := by omega
    have hc := w1.le
    have hm := w1.most
    unfold maxLen at hm
    clear w1 hl
    go_enter Try.func6, Try.ntmps6
    go_wp2_with fail
    refine (wakes_any _).mono ?_
    rintro e wz ⟨rfl, hbz⟩
    go_wp2_with fail
    go_ret
    exact ⟨rfl, ((Below.refl _ w).alloc (Nat.le_refl _) _).trans (hbz.mono (by simp))⟩
end Go.Proofs.Ytkkaedcgpbjbmaa
