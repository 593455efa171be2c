/- The walk of PackUnlike: it returns true for any certificates and votes. -/
import Derived.Test.YtkkaedcgpbjbmaaListsWalk
import Derived.Test.YtkkaedcgpbjbmaaSameCerts
import Derived.Test.YtkkaedcgpbjbmaaBounds
namespace Go.Proofs.Ytkkaedcgpbjbmaa
open Go.RowKit

theorem light_small {l : List Ct} (h : heavyC l = false) : ∀ x ∈ l, smallCert x := fun x hx => by
  have := (light_of h).2 x hx
  exact ⟨by omega, by omega⟩

set_option maxHeartbeats 1000000 in
set_option maxRecDepth 100000 in
theorem packUnlike_heavy (A1 A2 A3 A4 : Option Addr) (c1 c2 c3 c4 : Nat) (a b : List Ct) (v u : List Vt) (w : World) (h1 : HasCerts w w.heap.size A1 a) (h2 : HasCerts w w.heap.size A2 b)
    (hv : v.length ≤ 9223372036854775807) (hu : u.length ≤ 9223372036854775807) (h : heavyC a = true ∨ heavyC b = true ∨ 60 < v.length ∨ 60 < u.length) :
    Calls Try.prog 4 #[.slice A1 a.length c1, .slice A2 b.length c2, .slice A3 v.length c3, .slice A4 u.length c4] w fun e w' => e = .returned (.bool true) ∧ Below w.heap.size w w' := by
  have H1 := Lib.hid (fun w h => heavy_certs A1 c1 a w.heap.size w h)
  have H2 := Lib.hid (fun w h => heavy_certs A2 c2 b w.heap.size w h)
  have HC1 := Lib.hid h1
  have HC2 := Lib.hid h2
  clear h1 h2
  cases ha : heavyC a with
  | true =>
    rw [ha] at H1
    clear h ha
    go_enter Try.func4, Try.ntmps4
    go_wp2_with fail
    refine (H1.out _ HC1.out).mono ?_
    rintro e w1 ⟨rfl, rfl⟩
    go_wp2_with fail
    refine (wakes_any _).mono ?_
    rintro e wz ⟨rfl, hbz⟩
    go_wp2_with fail
    go_ret
    exact ⟨rfl, hbz⟩
  | false =>
    rw [ha] at H1 h
    clear ha
    cases hb : heavyC b with
    | true =>
      rw [hb] at H2
      clear h hb
      go_enter Try.func4, Try.ntmps4
      go_wp2_with fail
      refine (H1.out _ HC1.out).mono ?_
      rintro e w1 ⟨rfl, rfl⟩
      go_wp2_with fail
      refine (H2.out _ HC2.out).mono ?_
      rintro e w1 ⟨rfl, rfl⟩
      go_wp2_with fail
      refine (wakes_any _).mono ?_
      rintro e wz ⟨rfl, hbz⟩
      go_wp2_with fail
      go_ret
      exact ⟨rfl, hbz⟩
    | false =>
      rw [hb] at H2 h
      clear hb
      have h' : 60 < v.length ∨ 60 < u.length := by simpa using h
      clear h
      by_cases hl : 60 < v.length
      all_goals
        go_enter Try.func4, Try.ntmps4
        go_wp2_with fail
        refine (H1.out _ HC1.out).mono ?_
        rintro e w1 ⟨rfl, rfl⟩
        go_wp2_with fail
        refine (H2.out _ HC2.out).mono ?_
        rintro e w1 ⟨rfl, rfl⟩
        (have h2' : 60 < v.length ∨ (v.length ≤ 60 ∧ 60 < u.length) := by omega)
        clear h'
        (try (have h3 : 60 < u.length := by omega))
        (try (have h4 : v.length ≤ 60 := by omega))
        clear h2'
        go_wp2_with fail
        refine (wakes_any _).mono ?_
        rintro e wz ⟨rfl, hbz⟩
        go_wp2_with fail
        go_ret
        exact ⟨rfl, hbz⟩

set_option maxHeartbeats 4000000 in
set_option maxRecDepth 100000 in
theorem packUnlike_light (A1 A2 A3 A4 : Option Addr) (c1 c2 c3 c4 : Nat) (a b : List Ct) (v u : List Vt) (w : World) (h1 : HasCerts w w.heap.size A1 a) (h2 : HasCerts w w.heap.size A2 b)
    (h3 : Has w w.heap.size A3 (voteCells v)) (h4 : Has w w.heap.size A4 (voteCells u)) (ha : heavyC a = false) (hb : heavyC b = false) (hv : v.length ≤ 60) (hu : u.length ≤ 60) :
    Calls Try.prog 4 #[.slice A1 a.length c1, .slice A2 b.length c2, .slice A3 v.length c3, .slice A4 u.length c4] w fun e w' => e = .returned (.bool true) ∧ Below w.heap.size w w' := by
  have H1 := Lib.hid (fun w h => heavy_certs A1 c1 a w.heap.size w h)
  have H2 := Lib.hid (fun w h => heavy_certs A2 c2 b w.heap.size w h)
  rw [ha] at H1
  rw [hb] at H2
  have HCa := Lib.hid h1
  have HCb := Lib.hid h2
  have HV := Lib.hid h3
  have HU := Lib.hid h4
  have hv2 : 6 * (listToks Vt.toks v).length ≤ 70368744177664 := by rw [votes_toks]; omega
  have hu2 : 6 * (listToks Vt.toks u).length ≤ 70368744177664 := by rw [votes_toks]; omega
  have ha2 := certs_toks ha
  have hb2 := certs_toks hb
  have hla := (light_of ha).1
  have hlb := (light_of hb).1
  have HSa := Lib.hid (light_small ha)
  clear h1 h2 h3 h4 ha hb
  go_enter Try.func4, Try.ntmps4
  go_wp2_with fail
  refine (H1.out _ HCa.out).mono ?_
  rintro e w1 ⟨rfl, rfl⟩
  go_wp2_with fail
  refine (H2.out _ HCb.out).mono ?_
  rintro e w1 ⟨rfl, rfl⟩
  clear H1 H2
  go_wp2_with fail
  refine (pack_certs a A1 c1 _ HCa.out (by omega)).mono ?_
  rintro e w1 ⟨hb1, hx⟩
  rcases hx with ⟨x, Ax, cx, hx, rfl, hox⟩ | ⟨hx, rfl⟩
  · have HX := Lib.hid hx
    have HOx := Lib.hid (Has.own hox)
    have hlx := bytesOf_len hx
    clear hx hox
    go_wp2_with fail
    refine (pack_certs b A2 c2 _ (HCb.out.reads (fun _ _ h => (h.below hb1 (Nat.le_refl _)).more hb1.size)) (by omega)).mono ?_
    rintro e w2 ⟨hb3, hy⟩
    have hb4 := hb1.trans (hb3.mono hb1.size)
    rcases hy with ⟨y, Ay, cy, hy, rfl, hoy⟩ | ⟨hy, rfl⟩
    · have HE := Lib.hid (show sameB x y = sameL a b from by
        unfold sameB sameL
        rw [decide_eq_decide]
        exact ⟨fun h => unlike (f := tkCerts) tells_certs HX.out (h ▸ hy), fun h => Option.some.inj (HX.out.symm.trans (h ▸ hy))⟩)
      have HOy := Lib.hid (Has.own hoy)
      have HOx2 := Lib.hid ((HOx.out.below hb3 (Nat.le_refl _)).more hb3.size)
      clear hy hoy
      obtain ⟨r0, hr0⟩ : ∃ r, sameL a b = r := ⟨_, rfl⟩
      have HR0 := Lib.hid hr0
      have HR01 := Lib.hid (show sameB x y = r0 by rw [HE.out, hr0])
      clear hr0
      go_wp2_with fail
      refine (same_is rfl rfl (by omega) HR01.out _ HOx2.out HOy.out).mono ?_
      rintro e w3 ⟨rfl, nq, rfl⟩
      have HCa2 := Lib.hid (HCa.out.reads (w' := w2.drewN nq) (fun _ _ h => (h.below hb4 (Nat.le_refl _)).drewN nq))
      have HCb2 := Lib.hid (HCb.out.reads (w' := w2.drewN nq) (fun _ _ h => (h.below hb4 (Nat.le_refl _)).drewN nq))
      go_wp2_with fail
      refine (same_certs_is rfl rfl (by omega) HR0.out HSa.out (w2.drewN nq) hb4.size HCa2.out HCb2.out).mono ?_
      rintro e w4 ⟨rfl, hb5⟩
      have hb6 := (below_drewN hb4 nq).trans (hb5.mono hb4.size)
      cases r0
      all_goals
        go_wp2_with fail
        refine (pack_votes v A3 c3 _ ((HV.out.below hb6 (Nat.le_refl _)).more hb6.size) hv2).mono ?_
        rintro e wp ⟨hbp, hop⟩
        have hb8 := hb6.trans (hbp.mono hb6.size)
        rcases hop with ⟨p, Ap, cp, hp, rfl, hop⟩ | ⟨hp, rfl⟩
        · have HPp := Lib.hid hp
          have HOp := Lib.hid (Has.own hop)
          have hlp := bytesOf_len hp
          clear hp hop
          go_wp2_with fail
          refine (pack_votes u A4 c4 _ ((HU.out.below hb8 (Nat.le_refl _)).more hb8.size) hu2).mono ?_
          rintro e wq ⟨hbq, hoq⟩
          have hb9 := hb8.trans (hbq.mono hb8.size)
          rcases hoq with ⟨q, Aq, cq, hq, rfl, hoq⟩ | ⟨hq, rfl⟩
          · have HE := Lib.hid (show sameB p q = sameL v u from by
              unfold sameB sameL
              rw [decide_eq_decide]
              exact ⟨fun h => unlike (f := tkVotes) tells_votes HPp.out (h ▸ hq), fun h => Option.some.inj (HPp.out.symm.trans (h ▸ hq))⟩)
            have HOq := Lib.hid (Has.own hoq)
            have HOp2 := Lib.hid ((HOp.out.below hbq (Nat.le_refl _)).more hbq.size)
            clear hq hoq
            obtain ⟨r, hr⟩ : ∃ r, sameL v u = r := ⟨_, rfl⟩
            have HR := Lib.hid hr
            have HR1 := Lib.hid (show sameB p q = r by rw [HE.out, hr])
            clear hr
            go_wp2_with fail
            refine (same_is rfl rfl (by omega) HR1.out _ HOp2.out HOq.out).mono ?_
            rintro e wr ⟨rfl, nq, rfl⟩
            go_wp2_with fail
            refine (same_votes_is rfl rfl (by omega) HR.out _ ((HV.out.below hb9 (Nat.le_refl _)).drewN nq) ((HU.out.below hb9 (Nat.le_refl _)).drewN nq)).mono ?_
            rintro e ws ⟨rfl, nq2, rfl⟩
            have hb10 := below_drewN hb9 (nq + nq2)
            cases r
            all_goals
              go_wp2_with fail
              refine (wakes_any _).mono ?_
              rintro e wz ⟨rfl, hbz⟩
              go_wp2_with fail
              go_ret
              exact ⟨rfl, hb10.trans (hbz.mono hb10.size)⟩
          · clear hq
            go_wp2_with fail
            refine (wakes_any _).mono ?_
            rintro e wz ⟨rfl, hbz⟩
            go_wp2_with fail
            go_ret
            exact ⟨rfl, hb9.trans (hbz.mono hb9.size)⟩
        · clear hp
          go_wp2_with fail
          refine (pack_votes u A4 c4 _ ((HU.out.below hb8 (Nat.le_refl _)).more hb8.size) hu2).mono ?_
          rintro e wq ⟨hbq, hoq⟩
          have hb9 := hb8.trans (hbq.mono hb8.size)
          rcases hoq with ⟨q, Aq, cq, hq, rfl, hoq⟩ | ⟨hq, rfl⟩
          all_goals
            clear hq
            (try clear hoq)
            go_wp2_with fail
            refine (wakes_any _).mono ?_
            rintro e wz ⟨rfl, hbz⟩
            go_wp2_with fail
            go_ret
            exact ⟨rfl, hb9.trans (hbz.mono hb9.size)⟩

    · clear hy
      go_wp2_with fail
      refine (pack_votes v A3 c3 _ ((HV.out.below hb4 (Nat.le_refl _)).more hb4.size) hv2).mono ?_
      rintro e wp ⟨hbp, hop⟩
      have hb8 := hb4.trans (hbp.mono hb4.size)
      rcases hop with ⟨p, Ap, cp, hp, rfl, hop⟩ | ⟨hp, rfl⟩
      · have HPp := Lib.hid hp
        have HOp := Lib.hid (Has.own hop)
        have hlp := bytesOf_len hp
        clear hp hop
        go_wp2_with fail
        refine (pack_votes u A4 c4 _ ((HU.out.below hb8 (Nat.le_refl _)).more hb8.size) hu2).mono ?_
        rintro e wq ⟨hbq, hoq⟩
        have hb9 := hb8.trans (hbq.mono hb8.size)
        rcases hoq with ⟨q, Aq, cq, hq, rfl, hoq⟩ | ⟨hq, rfl⟩
        · have HE := Lib.hid (show sameB p q = sameL v u from by
            unfold sameB sameL
            rw [decide_eq_decide]
            exact ⟨fun h => unlike (f := tkVotes) tells_votes HPp.out (h ▸ hq), fun h => Option.some.inj (HPp.out.symm.trans (h ▸ hq))⟩)
          have HOq := Lib.hid (Has.own hoq)
          have HOp2 := Lib.hid ((HOp.out.below hbq (Nat.le_refl _)).more hbq.size)
          clear hq hoq
          obtain ⟨r, hr⟩ : ∃ r, sameL v u = r := ⟨_, rfl⟩
          have HR := Lib.hid hr
          have HR1 := Lib.hid (show sameB p q = r by rw [HE.out, hr])
          clear hr
          go_wp2_with fail
          refine (same_is rfl rfl (by omega) HR1.out _ HOp2.out HOq.out).mono ?_
          rintro e wr ⟨rfl, nq, rfl⟩
          go_wp2_with fail
          refine (same_votes_is rfl rfl (by omega) HR.out _ ((HV.out.below hb9 (Nat.le_refl _)).drewN nq) ((HU.out.below hb9 (Nat.le_refl _)).drewN nq)).mono ?_
          rintro e ws ⟨rfl, nq2, rfl⟩
          have hb10 := below_drewN hb9 (nq + nq2)
          cases r
          all_goals
            go_wp2_with fail
            refine (wakes_any _).mono ?_
            rintro e wz ⟨rfl, hbz⟩
            go_wp2_with fail
            go_ret
            exact ⟨rfl, hb10.trans (hbz.mono hb10.size)⟩
        · clear hq
          go_wp2_with fail
          refine (wakes_any _).mono ?_
          rintro e wz ⟨rfl, hbz⟩
          go_wp2_with fail
          go_ret
          exact ⟨rfl, hb9.trans (hbz.mono hb9.size)⟩
      · clear hp
        go_wp2_with fail
        refine (pack_votes u A4 c4 _ ((HU.out.below hb8 (Nat.le_refl _)).more hb8.size) hu2).mono ?_
        rintro e wq ⟨hbq, hoq⟩
        have hb9 := hb8.trans (hbq.mono hb8.size)
        rcases hoq with ⟨q, Aq, cq, hq, rfl, hoq⟩ | ⟨hq, rfl⟩
        all_goals
          clear hq
          (try clear hoq)
          go_wp2_with fail
          refine (wakes_any _).mono ?_
          rintro e wz ⟨rfl, hbz⟩
          go_wp2_with fail
          go_ret
          exact ⟨rfl, hb9.trans (hbz.mono hb9.size)⟩

  · clear hx
    go_wp2_with fail
    refine (pack_certs b A2 c2 _ (HCb.out.reads (fun _ _ h => (h.below hb1 (Nat.le_refl _)).more hb1.size)) (by omega)).mono ?_
    rintro e w2 ⟨hb3, hy⟩
    have hb4 := hb1.trans (hb3.mono hb1.size)
    rcases hy with ⟨y, Ay, cy, hy, rfl, hoy⟩ | ⟨hy, rfl⟩
    all_goals
      clear hy
      (try clear hoy)
      go_wp2_with fail
      refine (pack_votes v A3 c3 _ ((HV.out.below hb4 (Nat.le_refl _)).more hb4.size) hv2).mono ?_
      rintro e wp ⟨hbp, hop⟩
      have hb8 := hb4.trans (hbp.mono hb4.size)
      rcases hop with ⟨p, Ap, cp, hp, rfl, hop⟩ | ⟨hp, rfl⟩
      · have HPp := Lib.hid hp
        have HOp := Lib.hid (Has.own hop)
        have hlp := bytesOf_len hp
        clear hp hop
        go_wp2_with fail
        refine (pack_votes u A4 c4 _ ((HU.out.below hb8 (Nat.le_refl _)).more hb8.size) hu2).mono ?_
        rintro e wq ⟨hbq, hoq⟩
        have hb9 := hb8.trans (hbq.mono hb8.size)
        rcases hoq with ⟨q, Aq, cq, hq, rfl, hoq⟩ | ⟨hq, rfl⟩
        · have HE := Lib.hid (show sameB p q = sameL v u from by
            unfold sameB sameL
            rw [decide_eq_decide]
            exact ⟨fun h => unlike (f := tkVotes) tells_votes HPp.out (h ▸ hq), fun h => Option.some.inj (HPp.out.symm.trans (h ▸ hq))⟩)
          have HOq := Lib.hid (Has.own hoq)
          have HOp2 := Lib.hid ((HOp.out.below hbq (Nat.le_refl _)).more hbq.size)
          clear hq hoq
          obtain ⟨r, hr⟩ : ∃ r, sameL v u = r := ⟨_, rfl⟩
          have HR := Lib.hid hr
          have HR1 := Lib.hid (show sameB p q = r by rw [HE.out, hr])
          clear hr
          go_wp2_with fail
          refine (same_is rfl rfl (by omega) HR1.out _ HOp2.out HOq.out).mono ?_
          rintro e wr ⟨rfl, nq, rfl⟩
          go_wp2_with fail
          refine (same_votes_is rfl rfl (by omega) HR.out _ ((HV.out.below hb9 (Nat.le_refl _)).drewN nq) ((HU.out.below hb9 (Nat.le_refl _)).drewN nq)).mono ?_
          rintro e ws ⟨rfl, nq2, rfl⟩
          have hb10 := below_drewN hb9 (nq + nq2)
          cases r
          all_goals
            go_wp2_with fail
            refine (wakes_any _).mono ?_
            rintro e wz ⟨rfl, hbz⟩
            go_wp2_with fail
            go_ret
            exact ⟨rfl, hb10.trans (hbz.mono hb10.size)⟩
        · clear hq
          go_wp2_with fail
          refine (wakes_any _).mono ?_
          rintro e wz ⟨rfl, hbz⟩
          go_wp2_with fail
          go_ret
          exact ⟨rfl, hb9.trans (hbz.mono hb9.size)⟩
      · clear hp
        go_wp2_with fail
        refine (pack_votes u A4 c4 _ ((HU.out.below hb8 (Nat.le_refl _)).more hb8.size) hu2).mono ?_
        rintro e wq ⟨hbq, hoq⟩
        have hb9 := hb8.trans (hbq.mono hb8.size)
        rcases hoq with ⟨q, Aq, cq, hq, rfl, hoq⟩ | ⟨hq, rfl⟩
        all_goals
          clear hq
          (try clear hoq)
          go_wp2_with fail
          refine (wakes_any _).mono ?_
          rintro e wz ⟨rfl, hbz⟩
          go_wp2_with fail
          go_ret
          exact ⟨rfl, hb9.trans (hbz.mono hb9.size)⟩

theorem packUnlike_walk (A1 : Option Addr) (c1 : Nat) (a : List Ct) (A2 : Option Addr) (c2 : Nat) (b : List Ct) (A3 : Option Addr) (c3 : Nat) (v : List Vt) (A4 : Option Addr) (c4 : Nat) (u : List Vt) (w : World)
    (w0 : IsCerts w A1 a c1) (w1 : IsCerts w A2 b c2) (w2 : IsVotes w A3 v c3) (w3 : IsVotes w A4 u c4) :
    Calls Try.prog 4 #[.slice A1 a.length c1, .slice A2 b.length c2, .slice A3 v.length c3, .slice A4 u.length c4] w fun e w' => e = .returned (.bool true) ∧ Below w.heap.size w w' := by
  have hv := w2.le
  have hv2 := w2.most
  have hu := w3.le
  have hu2 := w3.most
  unfold maxLen at hv2 hu2
  by_cases h : heavyC a = true ∨ heavyC b = true ∨ 60 < v.length ∨ 60 < u.length
  · exact packUnlike_heavy A1 A2 A3 A4 c1 c2 c3 c4 a b v u w w0.has w1.has (by omega) (by omega) h
  · simp only [not_or, Bool.not_eq_true] at h
    exact packUnlike_light A1 A2 A3 A4 c1 c2 c3 c4 a b v u w w0.has w1.has w2.has w3.has h.1 h.2.1 (by omega) (by omega)
end Go.Proofs.Ytkkaedcgpbjbmaa
