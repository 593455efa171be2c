/- The walk of LedgerMore. -/
import Derived.Test.YtpjcedilkahpiaaOnce12Walk
import Derived.Test.YtpjcedilkahpiaaPrefix
namespace Go.Proofs.Ytpjcedilkahpiaa
open Go.RowKit
set_option linter.unusedSimpArgs false

/-- A ledger that runs batches, from world w1 on. -/
structure RMore (w w1 : World) (b0 : Lb) (S : Sc) (E : List En) (L : List Bt) (k : Nat) (b : Lb) (wr : World) : Prop where
  lx : Lx w b (S.run (allS (L.take k))) (E ++ S.ran (allS (L.take k))) wr
  same : b.lb = b0.lb
  n : b.N ≤ b0.N + (allS (L.take k)).length
  tn : Turn b0.zone w1 wr
  zone : ∀ j, b.zone j → b0.zone j ∨ w1.heap.size ≤ j
theorem RMore.start {w w1 : World} {b0 : Lb} {S : Sc} {E : List En} {L : List Bt} (h : Lx w b0 S E w1) : RMore w w1 b0 S E L 0 b0 w1 :=
  ⟨by show Lx w b0 S (E ++ []) w1; rw [List.append_nil]; exact h, rfl, Nat.le_add_right _ _, Turn.refl _ _, fun j hj => Or.inl hj⟩
theorem RMore.next {w w1 wr w2 : World} {b0 b b' : Lb} {S : Sc} {E : List En} {L : List Bt} {k : Nat} {v : Value} (h : RMore w w1 b0 S E L k b wr) (hk : k < L.length) (hR : Ran w b (S.run (allS (L.take k))) (E ++ S.ran (allS (L.take k))) L[k].l wr v b' w2) : RMore w w1 b0 S E L (k + 1) b' w2 := by
  have hs := h.tn.size
  refine ⟨?_, hR.same.trans h.same, ?_, ?_, fun j hj => ?_⟩
  · rw [allS_take hk, Sc.run_app, Sc.ran_app, ← List.append_assoc]
    exact hR.lx
  · have h1 := Sc.ran_len L[k].l (S.run (allS (L.take k)))
    have h2 := h.n
    rw [hR.n, allS_take hk, List.length_append]
    omega
  · have t1 : Turn (fun j => b0.zone j ∨ w1.heap.size ≤ j) w1 w2 := (h.tn.mono (fun _ _ e => Or.inl e)).trans (hR.tn.mono (fun j _ e => h.zone j e))
    exact t1.mono (fun j hj e => e.elim id (fun e => by omega))
  · rcases hR.zone j hj with e | e
    · exact h.zone j e
    · exact Or.inr (by omega)
theorem wrap_sum {r q t : Nat} (h : t = r + q) (ht : t ≤ 1000000) : wrap64 ((r : Int) + (q : Int)) = (t : Int) ∧ IntKind.i64.wrap ((r : Int) + (q : Int)) = (t : Int) := by
  subst h
  exact ⟨by rw [IntWalk.wrap64_in _ ⟨by omega, by omega⟩]; omega, by rw [IntWalk.i64_in _ ⟨by omega, by omega⟩]; omega⟩
set_option maxRecDepth 100000 in
set_option maxHeartbeats 4000000 in
theorem ledgerMore_walk (a : Int) (A : Option Addr) (c : Nat) (l : List Bt) (A' : Option Addr) (c' : Nat) (l' : List Bt) (w : World) (w0 : (Lit.int .i64 a).wf = true) (w1 : IsBats w A l c) (w2 : IsBats w A' l' c') :
    Calls Try.prog 10 #[.int .i64 a, .slice A l.length c, .slice A' l'.length c'] w fun e w' => e = .returned (.bool true) ∧ Below w.heap.size w w' := by
  obtain ⟨n, hn1, hn4, hW, hwr, hw6⟩ := clients_of w0
  have HW := Lib.hid hW
  have HC := Lib.hid (cutfold hn1 hn4 w1 w (Below.refl _ _))
  have HC2 := Lib.hid (cut_any w2)
  have HBs := Lib.hid w2.cut
  have HN4 := Lib.hid (And.intro hn1 hn4)
  have HNl := Lib.hid (allS_cut_len l)
  obtain ⟨Q, hQ⟩ : ∃ Q, allS (cutS l) = Q := ⟨_, rfl⟩
  obtain ⟨p, hp⟩ : ∃ p, (cutS l).length = p := ⟨_, rfl⟩
  rw [hQ, hp] at HC
  rw [hQ] at HNl
  have hNl2 := allS_cut_len l'
  have hLl2 : (cutS l').length ≤ 20 := by unfold cutS; rw [List.length_map, List.length_take]; omega
  obtain ⟨L, hL⟩ : ∃ L, cutS l' = L := ⟨_, rfl⟩
  rw [hL] at HC2 HBs hNl2 hLl2
  obtain ⟨m, hm⟩ : ∃ m, L.length = m := ⟨_, rfl⟩
  rw [hm] at HC2 hLl2
  have HM := Lib.hid hm
  have HNl2 := Lib.hid hNl2
  clear w0 w1 w2 hW hQ hp hn1 hn4 hL hm hNl2
  go_enter Try.func10, Try.ntmps10
  go_wp2_with fail
  refine (HW.out _).mono ?_
  rintro e wv ⟨rfl, rfl⟩
  go_wp2_with fail
  refine HC.out.mono ?_
  rintro e w2 ⟨A1, c1, rfl, _, hb, hF⟩
  have HB := Lib.hid hb
  have HF := Lib.hid hF
  clear hb hF HC
  go_wp2_with fail
  refine HF.out.mono ?_
  rintro e w3 ⟨b0, rfl, hl, hbN⟩
  have HL3 := Lib.hid (hl.base HB.out)
  have HBN := Lib.hid hbN
  have HA := Lib.hid (lall_any HL3.out.lg (by have := HBN.out; omega))
  obtain ⟨S, hS⟩ : ∃ S, (Sc.new n).run Q = S := ⟨_, rfl⟩
  obtain ⟨E, hE⟩ : ∃ E, (Sc.new n).ran Q = E := ⟨_, rfl⟩
  rw [hS, hE] at HL3
  rw [hE] at HA
  have hEl : E.length ≤ 160 := by rw [← hE]; exact Nat.le_trans (Sc.ran_len _ _) HNl.out
  obtain ⟨ee, hee⟩ : ∃ e, E.length = e := ⟨_, rfl⟩
  rw [hee] at HA hEl
  have HEe := Lib.hid hee
  clear hl hbN HF hS hE hee
  go_wp2_with fail
  refine HA.out.mono ?_
  rintro e w4 ⟨v, rfl, ho, hb4⟩
  obtain ⟨A2, c2, rfl, q2, -⟩ := own_slice ho
  have HL4 := Lib.hid (HL3.out.below hb4)
  have HE4 := Lib.hid (has_rows ho)
  have HO4 := Lib.hid (own_at ho)
  have HZ4 := Lib.hid (fun k (hk : b0.zone k) => HL3.out.lg.lt hk)
  have HC2' := Lib.hid (HC2.out w4 HL4.out.low)
  clear ho hb4 HA HC2
  go_wp2_with fail
  refine HC2'.out.mono ?_
  rintro e w5 ⟨v, rfl, ho, hb5⟩
  obtain ⟨A3, c3, rfl, -, -⟩ := own_slice ho
  have HL5 := Lib.hid (HL4.out.below hb5)
  have HE5 := Lib.hid (HE4.out.below hb5 (Nat.le_refl _))
  have HB5 := Lib.hid (has_rows ho)
  have HO5 := Lib.hid (own_at ho)
  have HSz := Lib.hid hb5.size
  have HS0 := Lib.hid (RMore.start (L := L) HL5.out)
  obtain ⟨lb, hlb⟩ : ∃ lb, b0.lb = lb := ⟨_, rfl⟩
  have HLb := Lib.hid hlb
  rw [hlb]
  clear ho hb5 HC2' HL3 hlb
  go_wp2_with fail
  go_loopw [10, 35] (fun y x wr => ∃ (k : Nat) (b : Lb), x = .int .i64 k ∧ y = .int .i64 ((S.ran (allS (L.take k))).length : Nat) ∧ k ≤ m ∧ Hid (RMore w w5 b0 S E L k b wr)) (fun _ x _ => m - (intOf x).toNat)
  case atStart => exact ⟨0, b0, rfl, rfl, Nat.zero_le _, HS0⟩
  case round =>
    obtain ⟨k, b, rfl, rfl, hk, HS⟩ := hrel
    by_cases hlt : k < m
    · have hkl : k < L.length := by rw [HM.out]; exact hlt
      have hA := has_apart HB5.out HS.out.tn (fun ad e _ hz => by have h1 := HO5.out ad e; have h2 := HZ4.out _ hz; have h3 := HO4.out; have h4 := HL4.out.lg.lt hz; omega)
      obtain ⟨ad, rfl, _, c0⟩ := hA.bat hkl
      obtain ⟨x, hx⟩ : ∃ x, L[k] = x := ⟨_, rfl⟩
      have hxm : x ∈ L := hx ▸ List.getElem_mem hkl
      rw [hx] at c0
      have hAx := (HBs.out.has x hxm).below HS.out.lx.low (Nat.le_refl _)
      obtain ⟨q, hq⟩ : ∃ p, x.l.length = p := ⟨_, rfl⟩
      rw [hq] at c0
      have hle : (allS (L.take k)).length + q ≤ 160 := by
        have := allS_le (l := L) (k + 1)
        rw [allS_take hkl, List.length_append, hx, hq] at this
        exact Nat.le_trans this HNl2.out
      have KR := Lib.hid (lx_run HS.out.lx (c := x.c) hAx (hAx.off HS.out.lx.up) hq (by have h1 := HS.out.n; have h2 := HBN.out; omega))
      rw [HS.out.same, HLb.out] at KR
      have HX := Lib.hid hx
      obtain ⟨r, hr⟩ : ∃ r, (S.ran (allS (L.take k))).length = r := ⟨_, rfl⟩
      have hrl : r ≤ 160 := by rw [← hr]; exact Nat.le_trans (Sc.ran_len _ _) (Nat.le_trans (Nat.le_add_right _ q) hle)
      rw [hr]
      have HR := Lib.hid hr
      clear hA hAx hxm hx hq hr
      go_wp2_with fail
      refine KR.out.mono ?_
      rintro e w6 ⟨v, b', rfl, hR⟩
      obtain ⟨A6, c6, rfl, -, -⟩ := own_slice hR.row
      have hml : (S.ran (allS (L.take (k + 1)))).length = r + ((S.run (allS (L.take k))).ran x.l).length := by rw [allS_take hkl, HX.out, Sc.ran_app, List.length_append, HR.out]
      have hrl2 : (S.ran (allS (L.take (k + 1)))).length ≤ 160 := Nat.le_trans (Sc.ran_len _ _) (Nat.le_trans (allS_le _) HNl2.out)
      have HS2 := Lib.hid (HS.out.next hkl (b' := b') (w2 := w6) (v := .slice A6 ((S.run (allS (L.take k))).ran x.l).length c6) (by rw [HX.out]; exact hR))
      obtain ⟨r2, hr2⟩ : ∃ r2, ((S.run (allS (L.take k))).ran x.l).length = r2 := ⟨_, rfl⟩
      rw [hr2] at hml ⊢
      obtain ⟨hwa, hwb⟩ := wrap_sum hml (Nat.le_trans hrl2 (by decide))
      obtain ⟨r3, hr3⟩ : ∃ r3, (S.ran (allS (L.take (k + 1)))).length = r3 := ⟨_, rfl⟩
      rw [hr3] at hwa hwb
      have HR3 := Lib.hid hr3
      clear hR KR hml hrl2 hr2 hr3
      go_wp2_with fail
      go_roundw
      case rel => exact ⟨k + 1, b', by go_num, by rw [HR3.out], by omega, HS2⟩
      case measure => simp [intOf]; omega
    · have he : L.take k = L := List.take_of_length_le (by rw [HM.out]; omega)
      have hlx := HS.out.lx
      have hN := HS.out.n
      have hsame := HS.out.same
      have hE := has_apart HE5.out HS.out.tn (fun ad e _ hz => by have h1 := HO4.out ad e; have h2 := HZ4.out _ hz; omega)
      rw [he] at hlx hN ⊢
      have hrl : (S.ran (allS L)).length ≤ 160 := Nat.le_trans (Sc.ran_len _ _) HNl2.out
      have hrt : (E ++ S.ran (allS L)).length = ee + (S.ran (allS L)).length := by rw [List.length_append, HEe.out]
      have hpre : E = (E ++ S.ran (allS L)).take ee := by rw [← HEe.out, List.take_left]
      have KA := Lib.hid (lall_any hlx.lg (by have h2 := HBN.out; have h3 := HNl2.out; omega))
      have hLow := Lib.hid hlx.low
      obtain ⟨r, hr⟩ : ∃ r, (S.ran (allS L)).length = r := ⟨_, rfl⟩
      obtain ⟨G, hG⟩ : ∃ G, E ++ S.ran (allS L) = G := ⟨_, rfl⟩
      obtain ⟨t, ht⟩ : ∃ t, G.length = t := ⟨_, rfl⟩
      rw [hG] at hrt hpre KA
      rw [hr] at hrt hrl ⊢
      rw [ht] at hrt KA
      have htl : t ≤ 1000000 := by omega
      obtain ⟨hwa, hwb⟩ := wrap_sum hrt htl
      rw [hsame, HLb.out] at KA
      have HE6 := Lib.hid hE.tight
      have HPre := Lib.hid hpre
      have HT := Lib.hid ht
      have het : ee ≤ t := by omega
      clear hlx hN hsame hE he hr hG ht hpre HS0 HS hrt
      go_wp2_with fail
      refine KA.out.mono ?_
      rintro e w6 ⟨v, rfl, ho, hb6⟩
      obtain ⟨A6, c6, rfl, q6, -⟩ := own_slice ho
      have hGr := has_rows ho
      have hEr := HE6.out.below hb6 (Nat.le_refl _)
      have HLow6 := Lib.hid (hLow.out.trans (hb6.mono hLow.out.size))
      have htk : (G.take ee).length = ee := by rw [List.length_take, HT.out]; omega
      have KS := Lib.hid (fun j => (same_ents A6 A2 c6 c2 (G.take ee) E w6.heap.size (w6.drewN j) (by rw [htk]; omega) ((hGr.ents_take ee).drewN j) (hEr.tight.drewN j)))
      have KP := Lib.hid (fun j => (pre_any (w := w6.drewN j) (c := c2) (c' := c6) (n := ee) (n' := t) (a := E) (b := G) (hEr.drewN j) (hGr.drewN j) HEe.out HT.out q2 q6 (by omega) htl))
      have hps : preS E G = true := by rw [HPre.out, preS_comm, preS_take]
      have hss : sameL (G.take ee) E = true := by rw [← HPre.out]; simp [sameL]
      rw [htk, hss, HEe.out] at KS
      rw [hps] at KP
      have hec : ee ≤ c6 := by omega
      have hec2 : (ee : Int) ≤ (c6 : Int) := by omega
      have geq : ((t : Int) == (t : Int)) = true := by simp
      clear ho hb6 hGr hEr htk hps hss KA
      go_wp2_with fail
      refine (KS.out 0).mono ?_
      rintro e wv ⟨rfl, j, hj⟩
      obtain ⟨i1, hi⟩ : ∃ i, wv = w6.drewN i := ⟨_, hj.trans (World.drewN_drewN _ _ _)⟩
      subst hi
      clear hj
      go_wp2_with fail
      refine (KP.out i1).mono ?_
      rintro e wv ⟨rfl, j, hj⟩
      obtain ⟨i2, hi⟩ : ∃ i, wv = w6.drewN i := ⟨_, hj.trans (World.drewN_drewN _ _ _)⟩
      subst hi
      clear hj
      go_wp2_with fail
      refine (wakes12_any _).mono ?_
      rintro e w9 ⟨rfl, hb9⟩
      go_wp2_with fail
      go_ret
      exact ⟨rfl, (below_drewN HLow6.out i2).trans (hb9.mono HLow6.out.size)⟩
end Go.Proofs.Ytpjcedilkahpiaa
