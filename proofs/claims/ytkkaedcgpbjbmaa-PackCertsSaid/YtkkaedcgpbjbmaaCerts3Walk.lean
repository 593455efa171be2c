/- The walk of PackCerts: it returns true for any votes and certificates. -/
import Derived.Test.YtkkaedcgpbjbmaaBoth
import Derived.Test.YtkkaedcgpbjbmaaSameCerts
namespace Go.Proofs.Ytkkaedcgpbjbmaa
open Go.RowKit

theorem light_small2 {l : List Ct} (h : heavyC l = false) : ∀ x ∈ l, smallCert x := fun x hx => by
  have := (light_of h).2 x hx
  exact ⟨by omega, by omega⟩

set_option maxHeartbeats 4000000 in
set_option maxRecDepth 100000 in
theorem packCerts_main (A1 A2 : Option Addr) (c1 c2 : Nat) (v : List Vt) (l : List Ct) (w : World) (hv : Has w w.heap.size A1 (voteCells v)) (hh : HasCerts w w.heap.size A2 l) (hvl : v.length ≤ 300) (hvy : heavyC l = false) :
    Calls Try.prog 7 #[.slice A1 v.length c1, .slice A2 l.length c2] w fun e w' => e = .returned (.bool true) ∧ Below w.heap.size w w' := by
  have hts := votes_toks v
  have hcs := certs_toks hvy
  have hlc0 := (light_of hvy).1
  have HSv := Lib.hid (show 6 * (listToks Vt.toks v).length ≤ 70368744177664 by omega)
  have HSc := Lib.hid (show 6 * (listToks Ct.toks l).length ≤ 70368744177664 by omega)
  have HTs := Lib.hid hts
  have HCs := Lib.hid hcs
  have HV := Lib.hid hv
  have HH := Lib.hid hh
  have HSm := Lib.hid (light_small2 hvy)
  have HHv := Lib.hid (heavy_certs A2 c2 l w.heap.size w hh)
  rw [hvy] at HHv
  have hb0 := Below.refl w.heap.size w
  clear hv hh hts hcs hvy
  rcases hra : bytesOf (listToks Vt.toks v) with _ | ba
  · have HRA := Lib.hid hra
    clear hra
    rcases hrc : bytesOf (listToks Ct.toks l) with _ | bc
    · have HRC := Lib.hid hrc
      clear hrc
      go_enter Try.func7, Try.ntmps7
      go_wp2_with fail
      refine (HHv.out).mono ?_
      rintro e w0 ⟨rfl, rfl⟩
      go_wp2_with fail
      refine (pack_votes v A1 c1 _ ((HV.out.below hb0 (Nat.le_refl _)).more hb0.size) HSv.out).mono ?_
      rintro e w1 h
      obtain ⟨rfl, hb1⟩ := h.no HRA.out
      clear h
      have hc1 := hb0.trans (hb1.mono hb0.size)
      go_wp2_with fail
      refine (ref_votes v A1 c1 _ ((HV.out.below hc1 (Nat.le_refl _)).more hc1.size) HSv.out).mono ?_
      rintro e w2 h
      obtain ⟨rfl, hb2⟩ := h.no HRA.out
      clear h
      have hc2 := hc1.trans (hb2.mono hc1.size)
      go_wp2_with fail
      refine (pack_certs l A2 c2 _ (HH.out.reads (fun _ _ h => (h.below hc2 (Nat.le_refl _)).more hc2.size)) HSc.out).mono ?_
      rintro e w3 h
      obtain ⟨rfl, hb3⟩ := h.no HRC.out
      clear h
      have hc3 := hc2.trans (hb3.mono hc2.size)
      go_wp2_with fail
      refine (ref_certs l A2 c2 _ (HH.out.reads (fun _ _ h => (h.below hc3 (Nat.le_refl _)).more hc3.size)) HSc.out).mono ?_
      rintro e w4 h
      obtain ⟨rfl, hb4⟩ := h.no HRC.out
      clear h
      have hc4 := hc3.trans (hb4.mono hc3.size)
      go_wp2_with fail
      refine (same_law_no _).mono ?_
      rintro e w5 ⟨rfl, hb5⟩
      have hc5 := hc4.trans (hb5.mono hc4.size)
      go_wp2_with fail
      refine (same_law_no _).mono ?_
      rintro e w6 ⟨rfl, hb6⟩
      have hc6 := hc5.trans (hb6.mono hc5.size)
      go_wp2_with fail
      refine (wakes_any _).mono ?_
      rintro e wz ⟨rfl, hbz⟩
      go_wp2_with fail
      go_ret
      exact ⟨rfl, hc6.trans (hbz.mono hc6.size)⟩
    · have HRC := Lib.hid hrc
      have hlc := bytesOf_len hrc
      have hcs2 := HCs.out
      have hlc2 : bc.length ≤ 16446 := by omega
      have HUc := Lib.hid (bytesOf_u8 hrc)
      clear hcs2 hlc
      clear hrc
      go_enter Try.func7, Try.ntmps7
      go_wp2_with fail
      refine (HHv.out).mono ?_
      rintro e w0 ⟨rfl, rfl⟩
      go_wp2_with fail
      refine (pack_votes v A1 c1 _ ((HV.out.below hb0 (Nat.le_refl _)).more hb0.size) HSv.out).mono ?_
      rintro e w1 h
      obtain ⟨rfl, hb1⟩ := h.no HRA.out
      clear h
      have hc1 := hb0.trans (hb1.mono hb0.size)
      go_wp2_with fail
      refine (ref_votes v A1 c1 _ ((HV.out.below hc1 (Nat.le_refl _)).more hc1.size) HSv.out).mono ?_
      rintro e w2 h
      obtain ⟨rfl, hb2⟩ := h.no HRA.out
      clear h
      have hc2 := hc1.trans (hb2.mono hc1.size)
      go_wp2_with fail
      refine (pack_certs l A2 c2 _ (HH.out.reads (fun _ _ h => (h.below hc2 (Nat.le_refl _)).more hc2.size)) HSc.out).mono ?_
      rintro e w3 h
      obtain ⟨B3, d3, rfl, hA3, _, _, hb3⟩ := h.yes HRC.out
      clear h
      have HA3 := Lib.hid hA3
      clear hA3
      have hc3 := hc2.trans (hb3.mono hc2.size)
      go_wp2_with fail
      refine (ref_certs l A2 c2 _ (HH.out.reads (fun _ _ h => (h.below hc3 (Nat.le_refl _)).more hc3.size)) HSc.out).mono ?_
      rintro e w4 h
      obtain ⟨B4, d4, rfl, hA4, _, _, hb4⟩ := h.yes HRC.out
      clear h
      have HA4 := Lib.hid hA4
      clear hA4
      replace HA3 := Lib.hid ((HA3.out.below hb4 (Nat.le_refl _)).more hb4.size)
      have hc4 := hc3.trans (hb4.mono hc3.size)
      go_wp2_with fail
      refine (same_law_no _).mono ?_
      rintro e w5 ⟨rfl, hb5⟩
      replace HA3 := Lib.hid ((HA3.out.below hb5 (Nat.le_refl _)).more hb5.size)
      replace HA4 := Lib.hid ((HA4.out.below hb5 (Nat.le_refl _)).more hb5.size)
      have hc5 := hc4.trans (hb5.mono hc4.size)
      go_wp2_with fail
      refine (same_law_yes _ _ _ _ _ bc (by omega) _ HA3.out HA4.out).mono ?_
      rintro e w6 ⟨rfl, hb6⟩
      replace HA3 := Lib.hid ((HA3.out.below hb6 (Nat.le_refl _)).more hb6.size)
      replace HA4 := Lib.hid ((HA4.out.below hb6 (Nat.le_refl _)).more hb6.size)
      have hc6 := hc5.trans (hb6.mono hc5.size)
      have HTc := Lib.hid (taken0 (f := tkCerts) tells_certs HRC.out)
      go_wp2_with fail
      refine (take_certs_yes rfl HTc.out (by omega) (by omega) HUc.out _ (Nat.le_refl _) HA3.out).mono ?_
      rintro e w9 ⟨A6, d6, rfl, hk6, hl6, ho6, hb9⟩
      have hc9 := hc6.trans (hb9.mono hc6.size)
      have HA6 := Lib.hid ho6.has
      clear ho6
      go_wp2_with fail
      refine (same_certs_is rfl rfl (by omega) (sameL_true.2 rfl) HSm.out _ (Nat.le_refl _) HA6.out (HH.out.reads (fun _ _ h => (h.below hc9 (Nat.le_refl _)).more hc9.size))).mono ?_
      rintro e wA ⟨rfl, hbA⟩
      have hcA := hc9.trans (hbA.mono hc9.size)
      go_wp2_with fail
      refine (wakes_any _).mono ?_
      rintro e wz ⟨rfl, hbz⟩
      go_wp2_with fail
      go_ret
      exact ⟨rfl, hcA.trans (hbz.mono hcA.size)⟩
  · have HRA := Lib.hid hra
    clear hra
    rcases hrc : bytesOf (listToks Ct.toks l) with _ | bc
    · have HRC := Lib.hid hrc
      have hla := bytesOf_len HRA.out
      rw [HTs.out] at hla
      have HUa := Lib.hid (bytesOf_u8 HRA.out)
      clear hrc
      go_enter Try.func7, Try.ntmps7
      go_wp2_with fail
      refine (HHv.out).mono ?_
      rintro e w0 ⟨rfl, rfl⟩
      go_wp2_with fail
      refine (pack_votes v A1 c1 _ ((HV.out.below hb0 (Nat.le_refl _)).more hb0.size) HSv.out).mono ?_
      rintro e w1 h
      obtain ⟨B1, d1, rfl, hA1, _, _, hb1⟩ := h.yes HRA.out
      clear h
      have HA1 := Lib.hid hA1
      clear hA1
      have hc1 := hb0.trans (hb1.mono hb0.size)
      go_wp2_with fail
      refine (ref_votes v A1 c1 _ ((HV.out.below hc1 (Nat.le_refl _)).more hc1.size) HSv.out).mono ?_
      rintro e w2 h
      obtain ⟨B2, d2, rfl, hA2, _, _, hb2⟩ := h.yes HRA.out
      clear h
      have HA2 := Lib.hid hA2
      clear hA2
      replace HA1 := Lib.hid ((HA1.out.below hb2 (Nat.le_refl _)).more hb2.size)
      have hc2 := hc1.trans (hb2.mono hc1.size)
      go_wp2_with fail
      refine (pack_certs l A2 c2 _ (HH.out.reads (fun _ _ h => (h.below hc2 (Nat.le_refl _)).more hc2.size)) HSc.out).mono ?_
      rintro e w3 h
      obtain ⟨rfl, hb3⟩ := h.no HRC.out
      clear h
      replace HA1 := Lib.hid ((HA1.out.below hb3 (Nat.le_refl _)).more hb3.size)
      replace HA2 := Lib.hid ((HA2.out.below hb3 (Nat.le_refl _)).more hb3.size)
      have hc3 := hc2.trans (hb3.mono hc2.size)
      go_wp2_with fail
      refine (ref_certs l A2 c2 _ (HH.out.reads (fun _ _ h => (h.below hc3 (Nat.le_refl _)).more hc3.size)) HSc.out).mono ?_
      rintro e w4 h
      obtain ⟨rfl, hb4⟩ := h.no HRC.out
      clear h
      replace HA1 := Lib.hid ((HA1.out.below hb4 (Nat.le_refl _)).more hb4.size)
      replace HA2 := Lib.hid ((HA2.out.below hb4 (Nat.le_refl _)).more hb4.size)
      have hc4 := hc3.trans (hb4.mono hc3.size)
      go_wp2_with fail
      refine (same_law_yes _ _ _ _ _ ba (by omega) _ HA1.out HA2.out).mono ?_
      rintro e w5 ⟨rfl, hb5⟩
      replace HA1 := Lib.hid ((HA1.out.below hb5 (Nat.le_refl _)).more hb5.size)
      replace HA2 := Lib.hid ((HA2.out.below hb5 (Nat.le_refl _)).more hb5.size)
      have hc5 := hc4.trans (hb5.mono hc4.size)
      go_wp2_with fail
      refine (same_law_no _).mono ?_
      rintro e w6 ⟨rfl, hb6⟩
      replace HA1 := Lib.hid ((HA1.out.below hb6 (Nat.le_refl _)).more hb6.size)
      replace HA2 := Lib.hid ((HA2.out.below hb6 (Nat.le_refl _)).more hb6.size)
      have hc6 := hc5.trans (hb6.mono hc5.size)
      have HTk := Lib.hid (taken0 (f := tkVotes) tells_votes HRA.out)
      go_wp2_with fail
      refine (take_votes_yes rfl HTk.out (by omega) (by omega) HUa.out _ (Nat.le_refl _) HA1.out).mono ?_
      rintro e w7 ⟨A5, d5, rfl, hk5, hl5, ho5, hb7⟩
      have hc7 := hc6.trans (hb7.mono hc6.size)
      have HA5 := Lib.hid (Has.ownS ho5)
      clear ho5
      go_wp2_with fail
      refine (same_votes_is rfl rfl (by omega) (sameL_true.2 rfl) _ HA5.out ((HV.out.below hc7 (Nat.le_refl _)).more hc7.size)).mono ?_
      rintro e w8 ⟨rfl, nq, rfl⟩
      have hc8 := below_drewN hc7 nq
      go_wp2_with fail
      refine (wakes_any _).mono ?_
      rintro e wz ⟨rfl, hbz⟩
      go_wp2_with fail
      go_ret
      exact ⟨rfl, hc8.trans (hbz.mono hc8.size)⟩
    · have HRC := Lib.hid hrc
      have hla := bytesOf_len HRA.out
      rw [HTs.out] at hla
      have HUa := Lib.hid (bytesOf_u8 HRA.out)
      have hlc := bytesOf_len hrc
      have hcs2 := HCs.out
      have hlc2 : bc.length ≤ 16446 := by omega
      have HUc := Lib.hid (bytesOf_u8 hrc)
      clear hcs2 hlc
      clear hrc
      go_enter Try.func7, Try.ntmps7
      go_wp2_with fail
      refine (HHv.out).mono ?_
      rintro e w0 ⟨rfl, rfl⟩
      go_wp2_with fail
      refine (pack_votes v A1 c1 _ ((HV.out.below hb0 (Nat.le_refl _)).more hb0.size) HSv.out).mono ?_
      rintro e w1 h
      obtain ⟨B1, d1, rfl, hA1, _, _, hb1⟩ := h.yes HRA.out
      clear h
      have HA1 := Lib.hid hA1
      clear hA1
      have hc1 := hb0.trans (hb1.mono hb0.size)
      go_wp2_with fail
      refine (ref_votes v A1 c1 _ ((HV.out.below hc1 (Nat.le_refl _)).more hc1.size) HSv.out).mono ?_
      rintro e w2 h
      obtain ⟨B2, d2, rfl, hA2, _, _, hb2⟩ := h.yes HRA.out
      clear h
      have HA2 := Lib.hid hA2
      clear hA2
      replace HA1 := Lib.hid ((HA1.out.below hb2 (Nat.le_refl _)).more hb2.size)
      have hc2 := hc1.trans (hb2.mono hc1.size)
      go_wp2_with fail
      refine (pack_certs l A2 c2 _ (HH.out.reads (fun _ _ h => (h.below hc2 (Nat.le_refl _)).more hc2.size)) HSc.out).mono ?_
      rintro e w3 h
      obtain ⟨B3, d3, rfl, hA3, _, _, hb3⟩ := h.yes HRC.out
      clear h
      have HA3 := Lib.hid hA3
      clear hA3
      replace HA1 := Lib.hid ((HA1.out.below hb3 (Nat.le_refl _)).more hb3.size)
      replace HA2 := Lib.hid ((HA2.out.below hb3 (Nat.le_refl _)).more hb3.size)
      have hc3 := hc2.trans (hb3.mono hc2.size)
      go_wp2_with fail
      refine (ref_certs l A2 c2 _ (HH.out.reads (fun _ _ h => (h.below hc3 (Nat.le_refl _)).more hc3.size)) HSc.out).mono ?_
      rintro e w4 h
      obtain ⟨B4, d4, rfl, hA4, _, _, hb4⟩ := h.yes HRC.out
      clear h
      have HA4 := Lib.hid hA4
      clear hA4
      replace HA1 := Lib.hid ((HA1.out.below hb4 (Nat.le_refl _)).more hb4.size)
      replace HA2 := Lib.hid ((HA2.out.below hb4 (Nat.le_refl _)).more hb4.size)
      replace HA3 := Lib.hid ((HA3.out.below hb4 (Nat.le_refl _)).more hb4.size)
      have hc4 := hc3.trans (hb4.mono hc3.size)
      go_wp2_with fail
      refine (same_law_yes _ _ _ _ _ ba (by omega) _ HA1.out HA2.out).mono ?_
      rintro e w5 ⟨rfl, hb5⟩
      replace HA1 := Lib.hid ((HA1.out.below hb5 (Nat.le_refl _)).more hb5.size)
      replace HA2 := Lib.hid ((HA2.out.below hb5 (Nat.le_refl _)).more hb5.size)
      replace HA3 := Lib.hid ((HA3.out.below hb5 (Nat.le_refl _)).more hb5.size)
      replace HA4 := Lib.hid ((HA4.out.below hb5 (Nat.le_refl _)).more hb5.size)
      have hc5 := hc4.trans (hb5.mono hc4.size)
      go_wp2_with fail
      refine (same_law_yes _ _ _ _ _ bc (by omega) _ HA3.out HA4.out).mono ?_
      rintro e w6 ⟨rfl, hb6⟩
      replace HA1 := Lib.hid ((HA1.out.below hb6 (Nat.le_refl _)).more hb6.size)
      replace HA2 := Lib.hid ((HA2.out.below hb6 (Nat.le_refl _)).more hb6.size)
      replace HA3 := Lib.hid ((HA3.out.below hb6 (Nat.le_refl _)).more hb6.size)
      replace HA4 := Lib.hid ((HA4.out.below hb6 (Nat.le_refl _)).more hb6.size)
      have hc6 := hc5.trans (hb6.mono hc5.size)
      have HTk := Lib.hid (taken0 (f := tkVotes) tells_votes HRA.out)
      go_wp2_with fail
      refine (take_votes_yes rfl HTk.out (by omega) (by omega) HUa.out _ (Nat.le_refl _) HA1.out).mono ?_
      rintro e w7 ⟨A5, d5, rfl, hk5, hl5, ho5, hb7⟩
      have hc7 := hc6.trans (hb7.mono hc6.size)
      have HA5 := Lib.hid (Has.ownS ho5)
      clear ho5
      replace HA3 := Lib.hid ((HA3.out.below hb7 (Nat.le_refl _)).more hb7.size)
      go_wp2_with fail
      refine (same_votes_is rfl rfl (by omega) (sameL_true.2 rfl) _ HA5.out ((HV.out.below hc7 (Nat.le_refl _)).more hc7.size)).mono ?_
      rintro e w8 ⟨rfl, nq, rfl⟩
      have hc8 := below_drewN hc7 nq
      have HTc := Lib.hid (taken0 (f := tkCerts) tells_certs HRC.out)
      go_wp2_with fail
      refine (take_certs_yes rfl HTc.out (by omega) (by omega) HUc.out _ (Nat.le_refl _) (HA3.out.drewN nq)).mono ?_
      rintro e w9 ⟨A6, d6, rfl, hk6, hl6, ho6, hb9⟩
      have hc9 := hc8.trans (hb9.mono hc8.size)
      have HA6 := Lib.hid ho6.has
      clear ho6
      go_wp2_with fail
      refine (same_certs_is rfl rfl (by omega) (sameL_true.2 rfl) HSm.out _ (Nat.le_refl _) HA6.out (HH.out.reads (fun _ _ h => (h.below hc9 (Nat.le_refl _)).more hc9.size))).mono ?_
      rintro e wA ⟨rfl, hbA⟩
      have hcA := hc9.trans (hbA.mono hc9.size)
      go_wp2_with fail
      refine (wakes_any _).mono ?_
      rintro e wz ⟨rfl, hbz⟩
      go_wp2_with fail
      go_ret
      exact ⟨rfl, hcA.trans (hbz.mono hcA.size)⟩

set_option maxHeartbeats 1000000 in
set_option maxRecDepth 100000 in
theorem packCerts_walk (A1 : Option Addr) (c1 : Nat) (v : List Vt) (A2 : Option Addr) (c2 : Nat) (l : List Ct) (w : World) (w0 : IsVotes w A1 v c1) (w1 : IsCerts w A2 l c2) :
    Calls Try.prog 7 #[.slice A1 v.length c1, .slice A2 l.length c2] w fun e w' => e = .returned (.bool true) ∧ Below w.heap.size w w' := by
  by_cases hl : v.length ≤ 300
  · cases hv : heavyC l with
    | false => exact packCerts_main A1 A2 c1 c2 v l w w0.has w1.has hl hv
    | true =>
      have HHv := Lib.hid (heavy_certs A2 c2 l w.heap.size w w1.has)
      rw [hv] at HHv
      clear w0 w1 hv
      go_enter Try.func7, Try.ntmps7
      go_wp2_with fail
      refine (HHv.out).mono ?_
      rintro e w0 ⟨rfl, rfl⟩
      go_wp2_with fail
      refine (wakes_any _).mono ?_
      rintro e wz ⟨rfl, hbz⟩
      go_wp2_with fail
      go_ret
      exact ⟨rfl, hbz⟩
  · have hl2 : 300 < v.length := by omega
    have hc := w0.le
    have hm := w0.most
    unfold maxLen at hm
    clear w0 w1 hl
    go_enter Try.func7, Try.ntmps7
    go_wp2_with fail
    refine (wakes_any _).mono ?_
    rintro e wz ⟨rfl, hbz⟩
    go_wp2_with fail
    go_ret
    exact ⟨rfl, hbz⟩
end Go.Proofs.Ytkkaedcgpbjbmaa
