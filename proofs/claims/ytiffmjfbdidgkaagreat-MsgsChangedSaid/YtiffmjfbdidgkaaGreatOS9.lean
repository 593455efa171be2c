/- A message that is parsed has short lists; a turned envelope of one seal does not open. Nothing of the program but Short. -/
import Derived.Test.YtiffmjfbdidgkaaGreatOMsgNode
import Derived.Test.YtiffmjfbdidgkaaGreatOMsgUnseal
import Derived.Test.YtiffmjfbdidgkaaGreatOS6
import Derived.Test.YtiffmjfbdidgkaaGreatOS5
import Derived.Test.YtiffmjfbdidgkaaGreatOTwo
import Derived.Test.YtiffmjfbdidgkaaGreatOS7
import Derived.Test.YtiffmjfbdidgkaaGreatOS1
import Derived.Deep.RegionHeld3
import Derived.Deep.DeepCutAuto
namespace Go.Proofs.YtiffmjfbdidgkaaGreat

end Go.Proofs.YtiffmjfbdidgkaaGreat
/- Which votes are sealed by their nodes: their meaning; package msgs' sealed, Voted, Changed. -/
namespace Go.Proofs.YtiffmjfbdidgkaaGreat
open Go.RowKit Go.Sort

def chgM (nd vw : Int) : Mg := ⟨6, nd, vw, 0, 0, 0, [], [], [], []⟩
/-- Is it the seal of a message's sender? -/
def sealM (L : List Deed) (m : Mg) (sg : Int) : Bool := match bodyM m with | some bs => checkS L (deedM m bs) sg | none => false
def changedS (vw f : Int) (L : List Deed) (l : List Vt) : Bool := decide (0 ≤ vw ∧ vw ≤ 11) && (risingS l f && l.all (fun v => sealM L (chgM v.nd vw) v.sg))
theorem rises_node {N : Int} : ∀ {l : List Vt} {last : Int}, risesF N last l = true → ∀ v ∈ l, last < v.nd ∧ v.nd < N
  | v :: l, last, h, u, hu => by
    unfold risesF at h
    rw [Bool.and_eq_true, decide_eq_true_eq] at h
    rcases List.mem_cons.1 hu with rfl | hu
    · exact h.1
    · have := rises_node h.2 u hu
      omega
theorem rising_node {l : List Vt} {f : Int} (h : risingS l f = true) : ∀ v ∈ l, 0 ≤ v.nd ∧ v.nd < 13 := fun v hv => by
  unfold risingS at h
  rw [Bool.and_eq_true, decide_eq_true_eq] at h
  have := rises_node h.2 v hv
  omega
set_option maxHeartbeats 2000000 in
set_option maxRecDepth 100000 in
theorem msealed_any (x : Ms) (sg : Int) {w : World} (h : x.In w w.heap.size) (hsz : 6 * x.m.toks.length ≤ 70368744177664) (hfr : fit x.m.fr) {nb bm : Nat} {L : List Deed} (hN : Nt w nb bm L) :
    Calls Tryz.prog 18 #[.agg #[.int .i64 x.m.kd, .int .i64 x.m.fr, .int .i64 x.m.vw, .int .i64 x.m.ins, .int .i64 x.m.sq, .int .i64 x.m.rs, .slice x.A1 x.m.bt.length x.c1, .slice x.A2 x.m.vs.length x.c2, .slice x.A3 x.m.cs.length x.c3, .slice x.A4 x.m.ps.length x.c4], .int .i64 sg, .pointer (some ⟨nb, 0, none⟩)] w fun e w' => e = .returned (.bool (sealM L x.m sg)) ∧ Below w.heap.size w w' := by
  have hb1 : Below w.heap.size w (w.alloc (.cells #[.int .i64 x.m.kd, .int .i64 x.m.fr, .int .i64 x.m.vw, .int .i64 x.m.ins, .int .i64 x.m.sq, .int .i64 x.m.rs, .slice x.A1 x.m.bt.length x.c1, .slice x.A2 x.m.vs.length x.c2, .slice x.A3 x.m.cs.length x.c3, .slice x.A4 x.m.ps.length x.c4] 35)) := (Below.refl _ w).alloc (Nat.le_refl _) _
  have HB1 := Lib.hid hb1
  have HBl := Lib.hid (Blk.new w 35 #[.int .i64 x.m.kd, .int .i64 x.m.fr, .int .i64 x.m.vw, .int .i64 x.m.ins, .int .i64 x.m.sq, .int .i64 x.m.rs, .slice x.A1 x.m.bt.length x.c1, .slice x.A2 x.m.vs.length x.c2, .slice x.A3 x.m.cs.length x.c3, .slice x.A4 x.m.ps.length x.c4])
  have HI := Lib.hid ((h.reads (Reads.below hb1 (Nat.le_refl _))).reads (Reads.more hb1.size))
  have HN := Lib.hid (hN.below hb1)
  have HFR := Lib.hid hfr
  clear h hN hb1 hfr
  go_enter Tryz.func18, Tryz.ntmps18
  go_wp2_with fail
  obtain ⟨w1, hw1⟩ : ∃ w1, (w.alloc (.cells #[.int .i64 x.m.kd, .int .i64 x.m.fr, .int .i64 x.m.vw, .int .i64 x.m.ins, .int .i64 x.m.sq, .int .i64 x.m.rs, .slice x.A1 x.m.bt.length x.c1, .slice x.A2 x.m.vs.length x.c2, .slice x.A3 x.m.cs.length x.c3, .slice x.A4 x.m.ps.length x.c4] 35)) = w1 := ⟨_, rfl⟩
  rw [hw1] at HB1 HBl HI HN ⊢
  clear hw1
  refine (body_any x w1 HI.out hsz).mono ?_
  rintro e w2 ⟨hb2, ⟨bs, A, c, hbs, rfl, ho⟩ | ⟨hbs, rfl⟩⟩
  · have HB2 := Lib.hid (HB1.out.trans (hb2.mono HB1.out.size))
    have HN2 := Lib.hid (HN.out.below hb2)
    have HO := Lib.hid ho
    have hl := bodyM_len hbs
    have HS := Lib.hid (show sealM L x.m sg = checkS L (deedM x.m bs) sg by unfold sealM; rw [hbs])
    obtain ⟨n, hn⟩ : ∃ n, bs.length = n := ⟨_, rfl⟩
    rw [hn] at HO hl ⊢
    have HNn := Lib.hid hn
    have d1 := (HBl.out.below hb2 HBl.out.lt).cell 1
    simp only [List.getElem?_toArray, List.getElem?_cons_zero, List.getElem?_cons_succ] at d1
    clear hb2 ho hn hbs
    go_wp2_with fail
    refine (check_any HN2.out HFR.out (k := sg) (c := c) (Has.own HO.out) HNn.out (by unfold maxLen; omega)).mono ?_
    rintro e w3 ⟨rfl, q, rfl⟩
    clear d1
    go_wp2_with fail
    go_ret
    exact ⟨by rw [HS.out]; simp [deedM], below_drewN HB2.out q⟩
  · have HB2 := Lib.hid (HB1.out.trans (hb2.mono HB1.out.size))
    have HS := Lib.hid (show sealM L x.m sg = false by unfold sealM; rw [hbs])
    clear hb2 hbs
    go_wp2_with fail
    go_ret
    exact ⟨by rw [HS.out]; rfl, HB2.out⟩
set_option maxHeartbeats 1000000 in
set_option maxRecDepth 100000 in
theorem mallchanged {w : World} {A : Option Addr} {c : Nat} {l : List Vt} (hh : Has w w.heap.size A (voteCells l)) (hl : l.length ≤ 1000000) (gk gn : Nat) (pr : Vt → Bool) (HC : ∀ v ∈ l, ∀ w', Below w.heap.size w w' → Calls Tryz.prog 17 #[.agg #[.int .i64 v.nd, .int .i64 v.sg], .pointer (some ⟨gk, 0, none⟩), .pointer (some ⟨gn, 0, none⟩)] w' fun e w2 => e = .returned (.bool (pr v)) ∧ Below w'.heap.size w' w2) :
    Calls Tryz.prog 16 #[.slice A l.length c, .func (.func 17) #[] #[.pointer (some ⟨gk, 0, none⟩), .pointer (some ⟨gn, 0, none⟩)]] w fun e w' => e = .returned (.bool (l.all pr)) ∧ Below w.heap.size w w' := by
  have H1 := Lib.hid hh
  have HCl := Lib.hid HC
  clear hh HC
  go_enter Tryz.func16, Tryz.ntmps16
  go_wp2_with fail
  go_loopw [9] (fun x wr => ∃ k : Nat, x = .int .i64 k ∧ k ≤ l.length ∧ Hid (Below w.heap.size w wr) ∧ Hid ((l.take k).all pr = true)) (fun x _ => l.length - (intOf x).toNat)
  case atStart => exact ⟨0, rfl, Nat.zero_le _, Below.refl _ _, rfl⟩
  case round =>
    obtain ⟨k, rfl, hk, HW, HT⟩ := hrel
    by_cases hlt : k < l.length
    · obtain ⟨ad, rfl, _, c0, c1⟩ := vote_at (H1.out.below HW.out (Nat.le_refl _)) hlt
      have HX := Lib.hid (show l[k]? = some l[k] from List.getElem?_eq_getElem hlt)
      have HM := Lib.hid (List.getElem_mem hlt)
      obtain ⟨x, hx⟩ : ∃ x, l[k] = x := ⟨_, rfl⟩
      rw [hx] at c0 c1 HX HM
      have HBx := Lib.hid (HW.out.alloc HW.out.size (.cells #[.int .i64 x.nd, .int .i64 x.sg] 39))
      have HC := Lib.hid (HCl.out x HM.out _ HBx.out)
      clear hx HM
      cases hv : pr x
      · have HE := Lib.hid (show l.all pr = false from all_far (p := pr) HX.out hv)
        rw [hv] at HC
        clear hv
        go_wp2_with (go_at_call 17; refine HC.out.mono ?_; rintro e w2 ⟨rfl, hb2⟩; have HB2 := Lib.hid (HBx.out.trans (hb2.mono HBx.out.size)); clear hb2)
        go_ret
        exact ⟨by rw [HE.out]; rfl, by assumption⟩
      · have HE := Lib.hid (show (l.take (k + 1)).all pr = true by rw [all_next HX.out, HT.out, hv]; rfl)
        rw [hv] at HC
        clear hv
        go_wp2_with (go_at_call 17; refine HC.out.mono ?_; rintro e w2 ⟨rfl, hb2⟩; have HB2 := Lib.hid (HBx.out.trans (hb2.mono HBx.out.size)); clear hb2)
        go_roundw
        case rel => exact ⟨k + 1, by go_num, by omega, by assumption, HE.out⟩
        case measure => simp [intOf]; omega
    · have HE := Lib.hid (show l.all pr = true by have := HT.out; rwa [List.take_of_length_le (by omega)] at this)
      go_wp2_with fail
      go_ret
      exact ⟨by rw [HE.out]; rfl, HW.out⟩
set_option maxHeartbeats 8000000 in
set_option maxRecDepth 100000 in
theorem mchanged1 (v : Vt) (vw : Int) {w : World} {gk gn nb bm : Nat} {L : List Deed} (hk : w.cell? ⟨gk, 0, none⟩ = some (.int .i64 vw)) (hn : w.cell? ⟨gn, 0, none⟩ = some (.pointer (some ⟨nb, 0, none⟩)))
    (hkb : gk < w.heap.size) (hnb : gn < w.heap.size) (hN : Nt w nb bm L) (hnd : fit v.nd) :
    Calls Tryz.prog 17 #[.agg #[.int .i64 v.nd, .int .i64 v.sg], .pointer (some ⟨gk, 0, none⟩), .pointer (some ⟨gn, 0, none⟩)] w fun e w' => e = .returned (.bool (sealM L (chgM v.nd vw) v.sg)) ∧ Below w.heap.size w w' := by
  have hb1 : Below w.heap.size w (w.alloc (.cells #[.int .i64 v.nd, .int .i64 v.sg] 39)) := (Below.refl _ w).alloc (Nat.le_refl _) _
  have HB1 := Lib.hid hb1
  have HV := Lib.hid (Blk.new w 39 #[.int .i64 v.nd, .int .i64 v.sg])
  have HK := Lib.hid ((hb1.cell hkb).trans hk)
  have HP := Lib.hid ((hb1.cell hnb).trans hn)
  have HN := Lib.hid (hN.below hb1)
  have HND := Lib.hid hnd
  clear hb1 hk hn hkb hnb hN hnd
  go_enter Tryz.func17, Tryz.ntmps17
  go_upto_region 1 with fail
  obtain ⟨w1, hw1⟩ : ∃ w1, (w.alloc (.cells #[.int .i64 v.nd, .int .i64 v.sg] 39)) = w1 := ⟨_, rfl⟩
  obtain ⟨gv, hgv⟩ : ∃ g, w.heap.size = g := ⟨_, rfl⟩
  rw [hw1] at HB1 HV HK HP HN ⊢
  rw [hgv] at HV ⊢
  clear hw1 hgv
  have v0 := HV.out.cell 0
  have v1 := HV.out.cell 1
  simp only [List.getElem?_toArray, List.getElem?_cons_zero, List.getElem?_cons_succ] at v0 v1
  have k0 := HK.out
  have p0 := HP.out
  go_wp2_with fail
  refine (msealed_any ⟨chgM v.nd vw, none, 0, none, 0, none, 0, none, 0⟩ v.sg ⟨Has.nil _ _ _, Has.nil _ _ _, ⟨[], rfl, Has.nil _ _ _, by simp⟩, ⟨[], rfl, Has.nil _ _ _, by simp⟩⟩ (by have : (chgM v.nd vw).toks.length = 10 := rfl; rw [this]; omega) HND.out HN.out).mono ?_
  rintro e w2 ⟨rfl, hb2⟩
  have HB2 := Lib.hid hb2
  clear hb2
  go_wp2_with fail
  go_ret
  exact ⟨by rfl, HB1.out.trans (HB2.out.mono HB1.out.size)⟩
set_option maxHeartbeats 4000000 in
set_option maxRecDepth 100000 in
theorem mchanged_any (vw : Int) {A : Option Addr} {c : Nat} {l : List Vt} (f : Int) {w : World} (hh : Has w w.heap.size A (voteCells l)) (hl : l.length ≤ 1000000) {nb bm : Nat} {L : List Deed} (hN : Nt w nb bm L) :
    Calls Tryz.prog 8 #[.int .i64 vw, .slice A l.length c, .int .i64 f, .pointer (some ⟨nb, 0, none⟩)] w fun e w' => e = .returned (.bool (changedS vw f L l)) ∧ Below w.heap.size w w' := by
  have hmf : ∀ (fn : Fn) (first cap : Array Value) (w : World), (Instr.makeFunc fn first cap).run Tryz.prog w = .ok (.func fn first cap) w := fun _ _ _ _ => rfl
  obtain ⟨wa, hwa⟩ : ∃ wa, w.alloc (.cells #[.int .i64 vw] 3) = wa := ⟨_, rfl⟩
  obtain ⟨wc, hwc⟩ : ∃ wc, wa.alloc (.cells #[.pointer (some ⟨nb, 0, none⟩)] 23) = wc := ⟨_, rfl⟩
  have hba : Below w.heap.size w wa := hwa ▸ (Below.refl _ w).alloc (Nat.le_refl _) _
  have hbc : Below wa.heap.size wa wc := hwc ▸ (Below.refl _ wa).alloc (Nat.le_refl _) _
  have hka : Blk wa w.heap.size 3 #[.int .i64 vw] := hwa ▸ Blk.new _ _ _
  have hnc : Blk wc wa.heap.size 23 #[.pointer (some ⟨nb, 0, none⟩)] := hwc ▸ Blk.new _ _ _
  have HB := Lib.hid (hba.trans (hbc.mono hba.size))
  have HK := Lib.hid (hka.below hbc hka.lt)
  have HP := Lib.hid hnc
  have HI := Lib.hid (Reads.more HB.out.size _ _ (Reads.below HB.out (Nat.le_refl _) _ _ hh))
  have HN := Lib.hid (hN.below HB.out)
  have KP := Lib.hid (fun w => mwithin vw 0 11 w)
  have sa : wa.heap.size = w.heap.size + 1 := by rw [← hwa]; simp
  rw [sa] at HP
  have hww : (w.alloc (.cells #[.int .i64 vw] 3)).alloc (.cells #[.pointer (some ⟨nb, 0, none⟩)] 23) = wc := by rw [hwa, hwc]
  have HWw := Lib.hid hww
  clear hba hbc hka hnc hh hN sa hwa hwc hww
  have HD := Lib.hid (show changedS vw f L l = ((decide (0 ≤ vw) && decide (vw ≤ 11)) && (risingS l f && l.all (fun v => sealM L (chgM v.nd vw) v.sg))) by unfold changedS; rw [Bool.decide_and])
  go_enter Tryz.func8, Tryz.ntmps8
  go_upto_region 1 with fail
  rw [HWw.out]
  obtain ⟨g, hg⟩ : ∃ g, w.heap.size = g := ⟨_, rfl⟩
  have HG := Lib.hid hg
  rw [hg] at HK HP ⊢
  clear hg
  have k0 := HK.out.cell 0
  simp only [List.getElem?_toArray, List.getElem?_cons_zero] at k0
  cases hi : (decide (0 ≤ vw) && decide (vw ≤ 11))
  case false =>
    rw [hi] at KP HD
    clear hi
    go_wp2_with fail
    refine (KP.out _).mono ?_
    rintro e w1 ⟨rfl, rfl⟩
    go_wp2_with fail
    go_ret
    exact ⟨by rw [HD.out]; rfl, HB.out⟩
  rw [hi] at KP HD
  clear hi
  have HRi := Lib.hid (rising_any (c := c) (n := l.length) HI.out rfl (by unfold maxLen; omega) f)
  cases hr : risingS l f
  case false =>
    rw [hr] at HRi HD
    clear hr
    go_wp2_with fail
    refine (KP.out _).mono ?_
    rintro e w1 ⟨rfl, rfl⟩
    go_wp2_with fail
    refine HRi.out.mono ?_
    rintro e w1 ⟨rfl, hb1⟩
    have HB1 := Lib.hid (HB.out.trans (hb1.mono HB.out.size))
    clear hb1
    go_wp2_with fail
    go_ret
    exact ⟨by rw [HD.out]; rfl, HB1.out⟩
  have HNo := Lib.hid (rising_node hr)
  rw [hr] at HRi HD
  clear hr
  have HA := Lib.hid (fun w2 (hb : Below wc.heap.size wc w2) => mallchanged (w := w2) (c := c) (Reads.more hb.size _ _ (Reads.below hb (Nat.le_refl _) _ _ HI.out)) hl g (g + 1) (fun v => sealM L (chgM v.nd vw) v.sg)
    (fun v hv w' hb' => mchanged1 v vw (((hb.trans (hb'.mono hb.size)).cell HK.out.lt).trans (HK.out.cell 0)) (((hb.trans (hb'.mono hb.size)).cell HP.out.lt).trans (HP.out.cell 0))
      (Nat.lt_of_lt_of_le HK.out.lt (hb.trans (hb'.mono hb.size)).size) (Nat.lt_of_lt_of_le HP.out.lt (hb.trans (hb'.mono hb.size)).size) (HN.out.below (hb.trans (hb'.mono hb.size))) (num_small (HNo.out v hv).1 (by have := (HNo.out v hv).2; omega))))
  go_wp2_with fail
  refine (KP.out _).mono ?_
  rintro e w1 ⟨rfl, rfl⟩
  go_wp2_with fail
  refine HRi.out.mono ?_
  rintro e w1 ⟨rfl, hb1⟩
  have HB1 := Lib.hid (HB.out.trans (hb1.mono HB.out.size))
  have HA1 := Lib.hid (HA.out w1 hb1)
  clear hb1 HA k0
  go_wp2_with fail
  refine HA1.out.mono ?_
  rintro e w2 ⟨rfl, hb2⟩
  have HB2 := Lib.hid (HB1.out.trans (hb2.mono HB1.out.size))
  clear hb2
  go_wp2_with fail
  go_ret
  exact ⟨by rw [HD.out]; simp, HB2.out⟩
end Go.Proofs.YtiffmjfbdidgkaaGreat
/- A quorum's votes, made one behind the other, each with its node's seal: they rise, and each is its node's. Nothing of the program's run. -/
namespace Go.Proofs.YtiffmjfbdidgkaaGreat

/-- The i-th node that votes: f of them are left out behind the first s. -/
def seatN (f s i : Nat) : Nat := if i < s then i else i + f
/-- n votes for what each node's message is, and what is sealed then. -/
def voS (ms : Int → Mg) (f s : Nat) (L0 : List Deed) : Nat → List Vt × List Deed
  | 0 => ([], L0)
  | i + 1 => ((voS ms f s L0 i).1 ++ [⟨(seatN f s i : Int), msgK (voS ms f s L0 i).2 (ms (seatN f s i : Int))⟩], msgL (voS ms f s L0 i).2 (ms (seatN f s i : Int)))
theorem voS_len (ms : Int → Mg) (f s : Nat) (L0 : List Deed) : ∀ n, (voS ms f s L0 n).1.length = n
  | 0 => rfl
  | i + 1 => by unfold voS; rw [List.length_append, voS_len ms f s L0 i]; rfl
theorem voS_at (ms : Int → Mg) (f s : Nat) (L0 : List Deed) : ∀ {n i : Nat}, i < n → (voS ms f s L0 n).1[i]? = some ⟨(seatN f s i : Int), msgK (voS ms f s L0 i).2 (ms (seatN f s i : Int))⟩
  | n + 1, i, h => by
    show ((voS ms f s L0 n).1 ++ [⟨(seatN f s n : Int), msgK (voS ms f s L0 n).2 (ms (seatN f s n : Int))⟩])[i]? = _
    by_cases e : i < n
    · rw [List.getElem?_append_left (by rw [voS_len]; exact e)]
      exact voS_at ms f s L0 e
    · obtain rfl : i = n := by omega
      rw [List.getElem?_append_right (by rw [voS_len]; exact Nat.le_refl _), voS_len, Nat.sub_self]
      rfl
/-- What is sealed stays sealed, at its place. -/
theorem sealed_grows {L : List Deed} (d : Deed) {k : Nat} {x : Deed} (h : L[k]? = some x) : (sealed L d)[k]? = some x := by
  unfold sealed
  split
  · exact h
  · rw [List.getElem?_append_left (List.getElem?_eq_some_iff.1 h).1]; exact h
theorem msgL_grows {L : List Deed} (m : Mg) {k : Nat} {x : Deed} (h : L[k]? = some x) : (msgL L m)[k]? = some x := by
  unfold msgL
  split
  · exact sealed_grows _ h
  · exact h
theorem msgL_nodup {L : List Deed} (m : Mg) (h : L.Nodup) : (msgL L m).Nodup := by
  unfold msgL
  split
  · exact sealed_nodup h _
  · exact h
theorem voS_nodup (ms : Int → Mg) (f s : Nat) {L0 : List Deed} (h : L0.Nodup) : ∀ n, (voS ms f s L0 n).2.Nodup
  | 0 => h
  | i + 1 => msgL_nodup _ (voS_nodup ms f s h i)
theorem voS_grows (ms : Int → Mg) (f s : Nat) (L0 : List Deed) {k : Nat} {x : Deed} {i : Nat} (h : (voS ms f s L0 i).2[k]? = some x) : ∀ j, (voS ms f s L0 (i + j)).2[k]? = some x
  | 0 => h
  | j + 1 => by
    have := voS_grows ms f s L0 h j
    exact msgL_grows _ this
theorem idx_place {d : Deed} : ∀ {l : List Deed}, d ∈ l → l[idx l d]? = some d
  | x :: l, h => by
    unfold idx
    by_cases e : x = d
    · rw [if_pos e, e]; rfl
    · rw [if_neg e, List.getElem?_cons_succ]
      exact idx_place ((List.mem_cons.1 h).resolve_left (fun he => e he.symm))
theorem seal_place (L : List Deed) (d : Deed) : ∃ k : Nat, sealS L d = (k : Int) + 1 ∧ (sealed L d)[k]? = some d := by
  refine ⟨idx L d, rfl, ?_⟩
  unfold sealed
  split
  · rename_i h; exact idx_place h
  · rename_i h
    rw [idx_not h, List.getElem?_append_right (Nat.le_refl _), Nat.sub_self]; rfl
/-- A seal that was given fits as long as what was sealed stays. -/
theorem sealM_made {L L' : List Deed} {m : Mg} {bs : List Int} (hb : bodyM m = some bs) (hn : L'.Nodup) (hg : ∀ (k : Nat) (x : Deed), (msgL L m)[k]? = some x → L'[k]? = some x) : sealM L' m (msgK L m) = true := by
  unfold sealM msgK
  rw [hb]
  obtain ⟨k, h1, h2⟩ := seal_place L (deedM m bs)
  show checkS L' (deedM m bs) (sealS L (deedM m bs)) = true
  rw [h1, checkS_eq hn]
  refine decide_eq_true (hg k _ ?_)
  unfold msgL
  rw [hb]; exact h2
/-- Each of the votes is its node's. -/
theorem voS_sealed (ms : Int → Mg) (f s : Nat) {L0 : List Deed} (hn : L0.Nodup) {n : Nat} (hb : ∀ i, i < n → ∃ bs, bodyM (ms (seatN f s i : Int)) = some bs) :
    (voS ms f s L0 n).1.all (fun v => sealM (voS ms f s L0 n).2 (ms v.nd) v.sg) = true := by
  rw [List.all_eq_true]
  intro v hv
  obtain ⟨i, hi⟩ := List.getElem?_of_mem hv
  have hin : i < n := by have := (List.getElem?_eq_some_iff.1 hi).1; rwa [voS_len] at this
  rw [voS_at ms f s L0 hin] at hi
  injection hi with hi
  subst hi
  obtain ⟨bs, hbs⟩ := hb i hin
  refine sealM_made hbs (voS_nodup ms f s hn n) (fun k x h => ?_)
  have h2 : (voS ms f s L0 (i + 1)).2[k]? = some x := h
  have := voS_grows ms f s L0 h2 (n - (i + 1))
  rwa [show i + 1 + (n - (i + 1)) = n by omega] at this
theorem voS_rises (ms : Int → Mg) (f s : Nat) (L0 : List Deed) (n : Nat) (N : Int) (hN : ∀ i, i < n → (seatN f s i : Int) < N) :
    ∀ (j : Nat) (last : Int), j ≤ n → (∀ i, n - j ≤ i → last < (seatN f s i : Int)) → risesF N last ((voS ms f s L0 n).1.drop (n - j)) = true
  | 0, last, _, _ => by
    rw [List.drop_eq_nil_of_le (by rw [voS_len]; omega)]; rfl
  | j + 1, last, hj, hl => by
    have hlt : n - (j + 1) < (voS ms f s L0 n).1.length := by rw [voS_len]; omega
    have hat := voS_at ms f s L0 (n := n) (i := n - (j + 1)) (by omega)
    rw [List.getElem?_eq_getElem hlt] at hat
    injection hat with hat
    rw [List.drop_eq_getElem_cons hlt, hat]
    unfold risesF
    rw [Bool.and_eq_true, decide_eq_true_eq]
    refine ⟨⟨hl _ (Nat.le_refl _), hN _ (by omega)⟩, ?_⟩
    rw [show n - (j + 1) + 1 = n - j by omega]
    refine voS_rises ms f s L0 n N hN j _ (by omega) (fun i hi => ?_)
    have hmono : ∀ a b, a < b → seatN f s a < seatN f s b := by
      intro a b hab
      unfold seatN
      split <;> split <;> omega
    have := hmono (n - (j + 1)) i (by omega)
    show ((seatN f s (n - (j + 1)) : Nat) : Int) < _
    omega
/-- A quorum's votes made so rise. -/
theorem voS_rising (ms : Int → Mg) {f s : Nat} (hf : 1 ≤ f ∧ f ≤ 4) (L0 : List Deed) : risingS (voS ms f s L0 (2 * f + 1)).1 (f : Int) = true := by
  rw [rising_in (by omega) (by omega) (by rw [voS_len]; omega)]
  have := voS_rises ms f s L0 (2 * f + 1) (3 * (f : Int) + 1) (fun i hi => by unfold seatN; split <;> omega) (2 * f + 1) (-1) (Nat.le_refl _) (fun i _ => by omega)
  rwa [Nat.sub_self, List.drop_zero] at this
end Go.Proofs.YtiffmjfbdidgkaaGreat
/- Envelopes of one seal: which bytes open. Nothing of the program's run. -/
namespace Go.Proofs.YtiffmjfbdidgkaaGreat

theorem str_list6 (zs : List Int) : (strOfNums zs).data.toList = zs.map fun n => UInt8.ofNat n.toNat := by simp [strOfNums]
theorem str_inj6 : ∀ {l m : List Int}, (∀ z ∈ l, 0 ≤ z ∧ z ≤ 255) → (∀ z ∈ m, 0 ≤ z ∧ z ≤ 255) → l.map (fun n => UInt8.ofNat n.toNat) = m.map (fun n => UInt8.ofNat n.toNat) → l = m
  | [], [], _, _, _ => rfl
  | [], _ :: _, _, _, h => by simp at h
  | _ :: _, [], _, _, h => by simp at h
  | x :: l, y :: m, hl, hm, h => by
    simp only [List.map_cons, List.cons.injEq] at h
    have h1 := congrArg UInt8.toNat h.1
    simp [UInt8.toNat_ofNat'] at h1
    have hx := hl x (by simp)
    have hy := hm y (by simp)
    rw [str_inj6 (l := l) (m := m) (fun z hz => hl z (by simp [hz])) (fun z hz => hm z (by simp [hz])) h.2]
    congr 1
    omega
theorem deedM_inj {m m' : Mg} {bs cs : List Int} (hb : ∀ z ∈ bs, 0 ≤ z ∧ z ≤ 255) (hc : ∀ z ∈ cs, 0 ≤ z ∧ z ≤ 255) (h : deedM m bs = deedM m' cs) : m.fr = m'.fr ∧ bs = cs := by
  have h1 := congrArg (fun d : Deed => d.1) h
  have h2 := congrArg (fun d : Deed => d.2.data.toList) h
  simp only [deedM, str_list6] at h1 h2
  exact ⟨h1, str_inj6 hb hc h2⟩
end Go.Proofs.YtiffmjfbdidgkaaGreat
/- A quorum's votes to leave a view; one vote turned, or another view. Nothing of the program's run. -/
namespace Go.Proofs.YtiffmjfbdidgkaaGreat

theorem chg_body {nd vw : Int} (h1 : 0 ≤ nd ∧ nd < 13) (h2 : 0 ≤ vw ∧ vw < 12) : ∃ bs, bodyM (chgM nd vw) = some bs := by
  have hc : ∃ ns, codes (chgM nd vw).toks = some ns := by
    have e1 : (0 : Int) ≤ nd ∧ nd < 1099511627776 := by omega
    have e2 : (0 : Int) ≤ vw ∧ vw < 1099511627776 := by omega
    simp [chgM, Mg.toks, Mg.head, listToks, codes, Tok.code, e1, e2]
  obtain ⟨ns, hns⟩ := hc
  have hb : bytesOf (chgM nd vw).toks = some (flat ns) := by unfold bytesOf; rw [hns]; rfl
  have hl := bytesOf_len hb
  have ht : (chgM nd vw).toks.length ≤ 20 := by simp [chgM, Mg.toks, Mg.head, listToks]
  refine ⟨flat ns, ?_⟩
  unfold bodyM
  rw [hb]
  exact if_pos (by omega)
/-- Another message's seal is no seal of this one. -/
theorem sealM_far {L : List Deed} (hn : L.Nodup) {m m' : Mg} {bs : List Int} (hb : bodyM m = some bs) {k : Nat} (hk : L[k]? = some (deedM m bs)) (hne : m ≠ m') : sealM L m' ((k : Int) + 1) = false := by
  unfold sealM
  cases hb' : bodyM m' with
  | none => rfl
  | some cs =>
    show checkS L (deedM m' cs) ((k : Int) + 1) = false
    rw [checkS_eq hn, decide_eq_false_iff_not, hk]
    intro e
    injection e with e
    obtain ⟨_, e2⟩ := deedM_inj (body_u8 hb) (body_u8 hb') e
    subst e2
    exact hne (body_unlike hb hb')
/-- The next number is no seal of it. -/
theorem sealM_next {L : List Deed} (hn : L.Nodup) {m : Mg} {bs : List Int} (hb : bodyM m = some bs) {k : Nat} (hk : L[k]? = some (deedM m bs)) : sealM L m ((k : Int) + 1 + 1) = false := by
  unfold sealM
  rw [hb]
  show checkS L (deedM m bs) ((k : Int) + 1 + 1) = false
  rw [show (k : Int) + 1 + 1 = ((k + 1 : Nat) : Int) + 1 by omega, checkS_eq hn, decide_eq_false_iff_not]
  intro e
  have h1 := List.getElem?_eq_some_iff.1 hk
  have h2 := List.getElem?_eq_some_iff.1 e
  obtain ⟨l1, g1⟩ := h1
  obtain ⟨l2, g2⟩ := h2
  exact List.pairwise_iff_getElem.1 hn k (k + 1) l1 l2 (Nat.lt_succ_self k) (g1.trans g2.symm)
/-- Where the i-th vote's seal stands. -/
theorem voS_place (ms : Int → Mg) (f s : Nat) (L0 : List Deed) {n i : Nat} (hi : i < n) {bs : List Int} (hb : bodyM (ms (seatN f s i : Int)) = some bs) :
    ∃ k : Nat, (voS ms f s L0 n).1[i]? = some ⟨(seatN f s i : Int), (k : Int) + 1⟩ ∧ (voS ms f s L0 n).2[k]? = some (deedM (ms (seatN f s i : Int)) bs) := by
  obtain ⟨k, h1, h2⟩ := seal_place (voS ms f s L0 i).2 (deedM (ms (seatN f s i : Int)) bs)
  have h3 : msgK (voS ms f s L0 i).2 (ms (seatN f s i : Int)) = (k : Int) + 1 := by unfold msgK; rw [hb]; exact h1
  have h4 : (voS ms f s L0 (i + 1)).2[k]? = some (deedM (ms (seatN f s i : Int)) bs) := by
    show (msgL (voS ms f s L0 i).2 (ms (seatN f s i : Int)))[k]? = _
    unfold msgL
    rw [hb]
    exact h2
  refine ⟨k, by rw [voS_at ms f s L0 hi, h3], ?_⟩
  have := voS_grows ms f s L0 h4 (n - (i + 1))
  rwa [show i + 1 + (n - (i + 1)) = n by omega] at this
theorem all_off {α : Type} {l : List α} {p : α → Bool} {i : Nat} {x : α} (h : l[i]? = some x) (hp : p x = false) : l.all p = false := List.all_eq_false.2 ⟨x, List.mem_of_getElem? h, by rw [hp]; simp⟩
theorem seat_in {f s i : Nat} (hf : 1 ≤ f ∧ f ≤ 4) (hi : i < 2 * f + 1) : 0 ≤ (seatN f s i : Int) ∧ (seatN f s i : Int) < 13 := by unfold seatN; split <;> omega
section
variable {f s : Nat} {vw : Int}
theorem changed_made (hf : 1 ≤ f ∧ f ≤ 4) (hv : 0 ≤ vw ∧ vw < 12) : changedS vw f (voS (fun nd => chgM nd vw) f s [] (2 * f + 1)).2 (voS (fun nd => chgM nd vw) f s [] (2 * f + 1)).1 = true := by
  unfold changedS
  rw [decide_eq_true (by omega), Bool.true_and, voS_rising _ hf, Bool.true_and]
  exact voS_sealed (fun nd => chgM nd vw) f s List.nodup_nil (fun i hi => chg_body (seat_in hf hi) hv)
theorem changed_off {vw f : Int} {L : List Deed} {V : List Vt} {i : Nat} {v : Vt} (h : V[i]? = some v) (hs : sealM L (chgM v.nd vw) v.sg = false) : changedS vw f L V = false := by
  have : (V.all fun v => sealM L (chgM v.nd vw) v.sg) = false := all_off h hs
  unfold changedS
  rw [this, Bool.and_false, Bool.and_false]
theorem changed_view (hf : 1 ≤ f ∧ f ≤ 4) (hv : 0 ≤ vw ∧ vw < 12) {vw' : Int} (hne : vw' ≠ vw) : changedS vw' f (voS (fun nd => chgM nd vw) f s [] (2 * f + 1)).2 (voS (fun nd => chgM nd vw) f s [] (2 * f + 1)).1 = false := by
  obtain ⟨bs, hb⟩ := chg_body (seat_in (s := s) hf (show 0 < 2 * f + 1 by omega)) hv
  obtain ⟨k, h1, h2⟩ := voS_place (fun nd => chgM nd vw) f s [] (n := 2 * f + 1) (i := 0) (by omega) hb
  exact changed_off h1 (sealM_far (voS_nodup _ f s List.nodup_nil _) hb h2 (fun e => hne (congrArg Mg.vw e).symm))
theorem changed_set {L : List Deed} {V : List Vt} {i : Nat} (hi : i < V.length) {v : Vt} (hs : sealM L (chgM v.nd vw) v.sg = false) : changedS vw f L (V.set i v) = false :=
  changed_off (i := i) (by rw [List.getElem?_set_self hi]) hs
theorem changed_seal (hf : 1 ≤ f ∧ f ≤ 4) (hv : 0 ≤ vw ∧ vw < 12) {i : Nat} (hi : i < 2 * f + 1) {v : Vt} (hat : (voS (fun nd => chgM nd vw) f s [] (2 * f + 1)).1[i]? = some v) :
    changedS vw f (voS (fun nd => chgM nd vw) f s [] (2 * f + 1)).2 ((voS (fun nd => chgM nd vw) f s [] (2 * f + 1)).1.set i ⟨v.nd, v.sg + 1⟩) = false := by
  obtain ⟨bs, hb⟩ := chg_body (seat_in (s := s) hf hi) hv
  obtain ⟨k, h1, h2⟩ := voS_place (fun nd => chgM nd vw) f s [] hi hb
  obtain rfl := Option.some.inj (h1.symm.trans hat)
  have h3 := sealM_next (voS_nodup (fun nd => chgM nd vw) f s List.nodup_nil (2 * f + 1)) hb h2
  have hl := voS_len (fun nd => chgM nd vw) f s [] (2 * f + 1)
  generalize voS (fun nd => chgM nd vw) f s [] (2 * f + 1) = P at *
  exact changed_set (v := ⟨(seatN f s i : Int), (k : Int) + 1 + 1⟩) (by omega) h3
theorem changed_node (hf : 1 ≤ f ∧ f ≤ 4) (hv : 0 ≤ vw ∧ vw < 12) {i : Nat} (hi : i < 2 * f + 1) {v : Vt} (hat : (voS (fun nd => chgM nd vw) f s [] (2 * f + 1)).1[i]? = some v) :
    changedS vw f (voS (fun nd => chgM nd vw) f s [] (2 * f + 1)).2 ((voS (fun nd => chgM nd vw) f s [] (2 * f + 1)).1.set i ⟨v.nd + 1, v.sg⟩) = false := by
  obtain ⟨bs, hb⟩ := chg_body (seat_in (s := s) hf hi) hv
  obtain ⟨k, h1, h2⟩ := voS_place (fun nd => chgM nd vw) f s [] hi hb
  obtain rfl := Option.some.inj (h1.symm.trans hat)
  have h3 : sealM (voS (fun nd => chgM nd vw) f s [] (2 * f + 1)).2 (chgM ((seatN f s i : Int) + 1) vw) ((k : Int) + 1) = false := sealM_far (voS_nodup (fun nd => chgM nd vw) f s List.nodup_nil (2 * f + 1)) hb h2 (fun e => by have e : (seatN f s i : Int) = (seatN f s i : Int) + 1 := congrArg Mg.fr e; omega)
  have hl := voS_len (fun nd => chgM nd vw) f s [] (2 * f + 1)
  generalize voS (fun nd => chgM nd vw) f s [] (2 * f + 1) = P at *
  exact changed_set (v := ⟨(seatN f s i : Int) + 1, (k : Int) + 1⟩) (by omega) h3
theorem changed_more {L : List Deed} {V : List Vt} (hl : V.length = 2 * f + 1) (v : Vt) : changedS vw f L (V ++ [v]) = false := by
  have : risingS (V ++ [v]) f = false := by
    unfold risingS
    rw [decide_eq_false (by rw [List.length_append, hl]; simp; omega), Bool.false_and]
  unfold changedS
  rw [this, Bool.false_and, Bool.and_false]
/-- The seals are small numbers. -/
theorem voS_small (hf : 1 ≤ f ∧ f ≤ 4) (hv : 0 ≤ vw ∧ vw < 12) {i : Nat} (hi : i < 2 * f + 1) {v : Vt} (hat : (voS (fun nd => chgM nd vw) f s [] (2 * f + 1)).1[i]? = some v) (hL : (voS (fun nd => chgM nd vw) f s [] (2 * f + 1)).2.length ≤ 2000) : (0 ≤ v.nd ∧ v.nd < 13) ∧ 0 ≤ v.sg ∧ v.sg ≤ 2000 := by
  obtain ⟨bs, hb⟩ := chg_body (seat_in (s := s) hf hi) hv
  obtain ⟨k, h1, h2⟩ := voS_place (fun nd => chgM nd vw) f s [] hi hb
  obtain rfl := Option.some.inj (h1.symm.trans hat)
  have := (List.getElem?_eq_some_iff.1 h2).1
  exact ⟨seat_in hf hi, by show (0 : Int) ≤ (k : Int) + 1; omega, by show (k : Int) + 1 ≤ 2000; omega⟩
end
end Go.Proofs.YtiffmjfbdidgkaaGreat
