/- The walk of NotaryAlone: it returns true for any acts, any party and any bytes. -/
import Derived.Test.YtalniijnlolbkaaWakeN
import Derived.Test.YtalniijnlolbkaaActs
import Derived.StillTailTactics
import Derived.Deep.DeepCutAuto
namespace Go.Proofs.Ytalniijnlolbkaa
open Go.RowKit Go.Maps

def Ac.deed (x : Ac) : Deed := (x.pt, strOfNums x.b)
theorem idx_sealed (l : List Deed) (d : Deed) : idx (sealed l d) d = idx l d := by
  by_cases h : d ∈ l
  · rw [sealed_in h]
  · rw [sealed_out h, idx_new h, idx_not h]
theorem sealed_mem (l : List Deed) (d : Deed) : d ∈ sealed l d := by
  by_cases h : d ∈ l
  · rw [sealed_in h]; exact h
  · rw [sealed_out h]; simp
theorem sealed_find (l : List Deed) (d : Deed) : findS (sealed l d) d = sealS l d := by
  rw [findS_in (sealed_mem l d), idx_sealed]; rfl
theorem check_own (l : List Deed) (d : Deed) : checkS (sealed l d) d (sealS l d) = true := by
  unfold checkS
  rw [decide_eq_true (sealed_mem l d), sealed_find]; simp
theorem check_else (l : List Deed) {d e : Deed} (h : e ≠ d) : checkS (sealed l d) e (sealS l d) = false := by
  unfold checkS
  by_cases he : e ∈ sealed l d
  · rw [findS_in he]
    have hne : ¬ ((idx (sealed l d) e : Int) + 1 = sealS l d) := by
      intro hx
      rw [← sealed_find, findS_in (sealed_mem l d)] at hx
      have h1 : idx (sealed l d) e = idx (sealed l d) d := by omega
      have h2 := idx_get he
      rw [h1, idx_get (sealed_mem l d)] at h2
      exact h (Option.some.inj h2).symm
    simp [hne]
  · simp [he]
theorem check_lo (l : List Deed) (d : Deed) {k : Int} (h : k < 1) : checkS l d k = false := by
  unfold checkS
  by_cases hm : d ∈ l
  · rw [findS_in hm]
    have : ¬ ((idx l d : Int) + 1 = k) := by omega
    simp [this]
  · simp [hm]
theorem check_past (l : List Deed) (d : Deed) : checkS l d ((l.length : Int) + 1) = false := by
  unfold checkS
  by_cases hm : d ∈ l
  · rw [findS_in hm]
    have := idx_lt hm
    have : ¬ ((idx l d : Int) + 1 = (l.length : Int) + 1) := by omega
    simp [this]
  · simp [hm]
theorem sealS_fit {l : List Deed} {d : Deed} (h : l.length ≤ 1000000) : fit (sealS l d) := by
  unfold sealS
  have : idx l d ≤ l.length := by
    by_cases hm : d ∈ l
    · exact Nat.le_of_lt (idx_lt hm)
    · rw [idx_not hm]; exact Nat.le_refl _
  exact WalkArith.wf_i64 (by omega)

theorem fit_len {n : Nat} (h : n ≤ 1000000) : fit ((n : Int) + 1) := WalkArith.wf_i64 (by omega)
set_option maxHeartbeats 2000000 in
theorem notaryAlone_walk (A : Option Addr) (c : Nat) (l : List Ac) (p : Int) (A2 : Option Addr) (c2 : Nat) (zs : List Int) (w : World) (w0 : IsActs w A l c) (w1 : (Lit.int .i64 p).wf = true) (w2 : IsList .u8 w A2 zs c2) :
    Calls Try.prog 4 #[.slice A l.length c, .int .i64 p, .slice A2 zs.length c2] w fun e w' => e = .returned (.bool true) ∧ Below w.heap.size w w' := by
  have hcap := w0.le
  have hmost := w0.most
  have HM := Lib.hid hmost
  unfold maxLen at hmost
  have HH := Lib.hid w0.has
  have HC := Lib.hid w0.came
  have HZ := Lib.hid w2.has
  have HZM := Lib.hid (Nat.le_trans w2.le w2.most)
  have HP := Lib.hid w1
  obtain ⟨n2, hn2⟩ : ∃ n2, zs.length = n2 := ⟨_, rfl⟩
  rw [hn2] at HZM ⊢
  have HN2 := Lib.hid hn2
  clear w0 w2 w1 hn2
  go_enter Try.func4, Try.ntmps4
  go_wp2_with fail
  refine (new_any _).mono ?_
  rintro e w1 ⟨nb, bm, rfl, hN, h1, h2, hb⟩
  have HB := Lib.hid hb
  have HN := Lib.hid hN
  clear hb hN
  go_wp2_with fail
  go_loopw [8] (fun x wr => ∃ (k : Nat) (L : List Deed), x = .int .i64 k ∧ k ≤ l.length ∧ k ≤ 60 ∧ Hid (L.length ≤ k) ∧ Nt wr nb bm L ∧ Below w.heap.size w wr) (fun x _ => 60 - (intOf x).toNat)
  case atStart => exact ⟨0, [], rfl, Nat.zero_le _, Nat.zero_le _, Nat.le_refl _, HN.out, HB.out⟩
  case round =>
    obtain ⟨k, L, rfl, hk, hk60, HL, hN, hb⟩ := hrel
    have HN := Lib.hid hN
    have HB := Lib.hid hb
    by_cases hlt : k < l.length ∧ k < 60
    · obtain ⟨hlt, hlt2⟩ := hlt
      obtain ⟨ad, rfl, _, d0, d1, d2, d3⟩ := act_at (HH.out.below hb (Nat.le_refl _)) hlt
      have HX := Lib.hid (HC.out _ (List.getElem_mem hlt))
      obtain ⟨x, hx⟩ : ∃ x, l[k] = x := ⟨_, rfl⟩
      rw [hx] at d0 d1 d2 d3 HX
      have HXe := Lib.hid hx
      clear hx hN hb
      go_wp2_with fail
      go_still_tail 11, (by kernel_rfl)
      change wpList _ _ _ _ _ wr.drew
      have HN1 := Lib.hid (show Nt wr.drew nb bm L from HN.out.drewN 1)
      have HB1 := Lib.hid (show Below w.heap.size w wr.drew from HB.out.trans ⟨rfl, rfl, rfl, Nat.le_refl _, fun _ _ => rfl⟩)
      obtain ⟨wd, hwd⟩ : ∃ wd, wr.drew = wd := ⟨_, rfl⟩
      rw [hwd] at HN1 HB1 ⊢
      have HXb := Lib.hid (show Has wd w.heap.size x.A (u8s x.b) from HX.out.b.has.below HB1.out (Nat.le_refl _))
      have HXm := Lib.hid (Nat.le_trans HX.out.b.le HX.out.b.most)
      have hL6 := Nat.le_trans HL.out hk60
      have HLm := Lib.hid (show L.length ≤ 1000000 by omega)
      obtain ⟨n1, hn1⟩ : ∃ n1, x.b.length = n1 := ⟨_, rfl⟩
      rw [hn1] at HXm
      have HN1e := Lib.hid hn1
      clear hwd d0 d1 d2 d3 HN HB hL6
      rw [hn1]
      clear hn1
      go_wp2_with fail
      refine (seal_any HN1.out HLm.out HX.out.pt HXb.out HN1e.out HXm.out).mono ?_
      rintro e w2 ⟨rfl, hN2, ht2⟩
      have HN2' := Lib.hid hN2
      have HB2 := Lib.hid (HB1.out.trans (ht2.below (B := w.heap.size) HB1.out.size (fun k hk he => by omega)))
      clear hN2 ht2
      obtain ⟨ad', he, _, d0, d1, d2, d3⟩ := act_at (HH.out.below HB2.out (Nat.le_refl _)) hlt
      cases he
      rw [show l[k] = x from HXe.out] at d1 d3
      rw [HN1e.out] at d3
      have hcx := fun q => conv_has (w := w2.drewN q) (c := x.c) ((HX.out.b.has.below HB2.out (Nat.le_refl _)).drewN q) HN1e.out
      have hcz := fun q => conv_has (w := w2.drewN q) (c := c2) ((HZ.out.below HB2.out (Nat.le_refl _)).drewN q) HN2.out
      have HXw := Lib.hid (show Has w2 w.heap.size x.A (u8s x.b) from HX.out.b.has.below HB2.out (Nat.le_refl _))
      have HZw := Lib.hid (show Has w2 w.heap.size A2 (u8s zs) from HZ.out.below HB2.out (Nat.le_refl _))
      obtain ⟨s, hs⟩ : ∃ s, strOfNums x.b = s := ⟨_, rfl⟩
      obtain ⟨t, ht⟩ : ∃ t, strOfNums zs = t := ⟨_, rfl⟩
      have HSF := Lib.hid (sealS_fit (d := (x.pt, s)) HLm.out)
      have HLn := Lib.hid (sealed_len L (x.pt, s))
      have HOwn := Lib.hid (check_own L (x.pt, s))
      have HElse := Lib.hid (fun (h : (p, t) ≠ (x.pt, s)) => check_else L h)
      obtain ⟨L', hL'⟩ : ∃ L', sealed L (x.pt, s) = L' := ⟨_, rfl⟩
      obtain ⟨sv, hsv⟩ : ∃ sv, sealS L (x.pt, s) = sv := ⟨_, rfl⟩
      rw [hs] at hcx HN2' ⊢
      rw [ht] at hcz
      rw [hL'] at HN2' HLn HOwn HElse
      rw [hsv] at HSF HOwn HElse ⊢
      have HCa := Lib.hid (fun q => check_any (HN2'.out.drewN q) (c := x.c) (k := sv) HX.out.pt (HXw.out.drewN q) HN1e.out HXm.out)
      have HCb := Lib.hid (fun q => check_any (HN2'.out.drewN q) (c := c2) (k := sv) HP.out (HZw.out.drewN q) HN2.out HZM.out)
      rw [hs, HOwn.out] at HCa
      rw [ht] at HCb
      have HN2b := Lib.hid HOwn.out
      clear hs ht hL' hsv d0 d2 HXw HZw HSF HN1 HB1
      by_cases hpp : p = x.pt
      · by_cases hst : t = s
        · have HV := Lib.hid (show checkS L' (p, t) sv = true from by rw [hpp, hst]; exact HOwn.out)
          rw [HV.out] at HCb
          have hq1 : (p == x.pt) = true := by rw [hpp]; simp
          have hq2 : (t.toList == s.toList) = true := by rw [hst]; simp
          clear hpp hst HOwn HElse HV
          clear HN2b
          go_wp2_with fail
          go_quiet ((first | (go_at_call 11; with_reducible exact Calls.quiet_of (HCa.out _)) | (go_at_call 11; exact Calls.quiet_of (HCb.out _))))
          go_wp2_with fail
          go_roundw
          case rel => exact ⟨k + 1, L', by go_num, by omega, by omega, Nat.le_trans HLn.out (Nat.succ_le_succ HL.out), HN2'.out.drewN _, HB2.out.trans ⟨rfl, rfl, rfl, Nat.le_refl _, fun _ _ => rfl⟩⟩
          case measure => simp [intOf]; omega
        · have HV := Lib.hid (show checkS L' (p, t) sv = false from HElse.out (fun e => hst (by injection e)))
          rw [HV.out] at HCb
          have hq1 : (p == x.pt) = true := by rw [hpp]; simp
          have hq2 : (t.toList == s.toList) = false := by rw [str_eq, decide_eq_false hst]
          clear hpp hst HOwn HElse HV
          clear HN2b
          go_wp2_with fail
          go_quiet ((first | (go_at_call 11; with_reducible exact Calls.quiet_of (HCa.out _)) | (go_at_call 11; exact Calls.quiet_of (HCb.out _))))
          go_wp2_with fail
          go_roundw
          case rel => exact ⟨k + 1, L', by go_num, by omega, by omega, Nat.le_trans HLn.out (Nat.succ_le_succ HL.out), HN2'.out.drewN _, HB2.out.trans ⟨rfl, rfl, rfl, Nat.le_refl _, fun _ _ => rfl⟩⟩
          case measure => simp [intOf]; omega
      · have HV := Lib.hid (show checkS L' (p, t) sv = false from HElse.out (fun e => hpp (by injection e)))
        rw [HV.out] at HCb
        have hq1 : (p == x.pt) = false := by rw [beq_eq_false_iff_ne]; exact hpp
        clear hpp HOwn HElse HV
        clear HN2b
        go_wp2_with fail
        go_quiet ((first | (go_at_call 11; with_reducible exact Calls.quiet_of (HCa.out _)) | (go_at_call 11; exact Calls.quiet_of (HCb.out _))))
        go_wp2_with fail
        go_roundw
        case rel => exact ⟨k + 1, L', by go_num, by omega, by omega, Nat.le_trans HLn.out (Nat.succ_le_succ HL.out), HN2'.out.drewN _, HB2.out.trans ⟨rfl, rfl, rfl, Nat.le_refl _, fun _ _ => rfl⟩⟩
        case measure => simp [intOf]; omega
    · have HL60 := Lib.hid (show L.length ≤ 60 from Nat.le_trans HL.out hk60)
      have HLm := Lib.hid (show L.length ≤ 1000000 from Nat.le_trans (Nat.le_trans HL.out hk60) (by omega))
      have hB := HB.out
      have HZw := Lib.hid (show Has wr w.heap.size A2 (u8s zs) from HZ.out.below HB.out (Nat.le_refl _))
      have HF0 := Lib.hid (show fit 0 by unfold fit; decide)
      have HF1 := Lib.hid (show fit (-1) by unfold fit; decide)
      obtain ⟨t, ht⟩ : ∃ t, strOfNums zs = t := ⟨_, rfl⟩
      have HCk := Lib.hid (fun (w' : World) (h : Nt w' nb bm L) (hh : Has w' w.heap.size A2 (u8s zs)) (k : Int) (hk : fit k) => check_any h (c := c2) (k := k) HP.out hh HN2.out HZM.out)
      rw [ht] at HCk
      clear hN hb hB ht
      have hor : (k < l.length ∧ 60 ≤ k) ∨ l.length ≤ k := by omega
      clear hlt hmost hcap hk60
      rcases hor with ⟨hq, hq2⟩ | hq
      all_goals
        go_wp2_with fail
        refine (HCk.out _ HN.out HZw.out 0 HF0.out).mono ?_
        rintro e wa ⟨rfl, ma, hwa⟩
        rw [check_lo L (p, t) (show (0 : Int) < 1 by omega)]
        have HNa := Lib.hid (show Nt wa nb bm L by rw [hwa]; exact HN.out.drewN ma)
        have HZa := Lib.hid (show Has wa w.heap.size A2 (u8s zs) by rw [hwa]; exact HZw.out.drewN ma)
        have HBa := Lib.hid (show Below w.heap.size w wa by rw [hwa]; exact HB.out.trans ⟨rfl, rfl, rfl, Nat.le_refl _, fun _ _ => rfl⟩)
        clear hwa
        go_wp2_with fail
        refine (HCk.out _ HNa.out HZa.out (-1) HF1.out).mono ?_
        rintro e wb ⟨rfl, mb, hwb⟩
        rw [check_lo L (p, t) (show (-1 : Int) < 1 by omega)]
        have HNb := Lib.hid (show Nt wb nb bm L by rw [hwb]; exact HNa.out.drewN mb)
        have HZb := Lib.hid (show Has wb w.heap.size A2 (u8s zs) by rw [hwb]; exact HZa.out.drewN mb)
        have HBb := Lib.hid (show Below w.heap.size w wb by rw [hwb]; exact HBa.out.trans ⟨rfl, rfl, rfl, Nat.le_refl _, fun _ _ => rfl⟩)
        clear hwb
        go_wp2_with fail
        refine (len_any HNb.out).mono ?_
        rintro e wx ⟨rfl, rfl⟩
        have hLn := HL60.out
        go_wp2_with fail
        refine (HCk.out _ HNb.out HZb.out ((L.length : Int) + 1) (fit_len HLm.out)).mono ?_
        rintro e wd ⟨rfl, md, hwd⟩
        rw [check_past L (p, t)]
        have HBd := Lib.hid (show Below w.heap.size w wd by rw [hwd]; exact HBb.out.trans ⟨rfl, rfl, rfl, Nat.le_refl _, fun _ _ => rfl⟩)
        clear hwd hLn
        go_wp2_with fail
        refine (wakesN_any _).mono ?_
        rintro e wz ⟨rfl, hbz⟩
        go_wp2_with fail
        go_ret
        exact ⟨rfl, HBd.out.trans (hbz.mono HBd.out.size)⟩
end Go.Proofs.Ytalniijnlolbkaa
