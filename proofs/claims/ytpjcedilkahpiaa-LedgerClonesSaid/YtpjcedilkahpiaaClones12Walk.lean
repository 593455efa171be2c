/- The walk of LedgerClones. -/
import Derived.Test.YtpjcedilkahpiaaRuns12Walk
import Derived.Test.YtpjcedilkahpiaaStoreCopy
namespace Go.Proofs.Ytpjcedilkahpiaa
open Go.RowKit
set_option linter.unusedSimpArgs false

theorem dinfo_size (n : Int) (V : Kv) (L : List (Int × Int)) (A : Option Addr) (m c : Nat) : (Try.prog.info? 59).map (·.size) = some (ledCells n V (zC L A m c)).size := by
  rw [led_size]
  kernel_rfl
theorem dcells_one (n : Int) (V : Kv) (L : List (Int × Int)) (A : Option Addr) (m c : Nat) : (ledCells n V (zC L A m c)).all (·.oneCell') = true := by
  unfold ledCells
  rw [Array.all_append, Array.all_append, stCells_one V]
  simp [zC, Value.oneCell']
theorem dload {w : World} {rb : Nat} {n : Int} {V : Kv} {L : List (Int × Int)} {A : Option Addr} {m c : Nat} (h : Blk w rb 59 (ledCells n V (zC L A m c))) : (loadVar 59 ⟨rb, 0, none⟩).run Try.prog w = .ok (.agg (ledCells n V (zC L A m c))) w :=
  run_loadVar_row w rb 59 59 (ledCells n V (zC L A m c)) (0, 0) _ h Try.underlying59 rfl (dinfo_size n V L A m c)
theorem dstore (w : World) (C0 : Array Value) (h0 : C0.size = 138) (n : Int) (V : Kv) (L : List (Int × Int)) (A : Option Addr) (m c : Nat) : (storeCells ⟨w.heap.size, 0, none⟩ (ledCells n V (zC L A m c)).toList 0).run Try.prog (w.alloc (.cells C0 59)) = .ok () (w.alloc (.cells (ledCells n V (zC L A m c)) 59)) :=
  run_storeCells_new w 59 C0 (ledCells n V (zC L A m c)) (dinfo_size n V L A m c) (by rw [h0, led_size]; rfl) (dcells_one n V L A m c)
/-- While the document's ledger runs the first batches. -/
structure RRef (w1 : World) (H : Nat) (S : Sc) (L : List Bt) (k : Nat) (r : Rb) (wr : World) : Prop where
  rl : Rl wr r (S.run (allS (L.take k))) (S.ran (allS (L.take k)))
  rb : r.rb = H
  new : ∀ ad, r.A = some ad → w1.heap.size ≤ ad.block
  tn : Turn (fun j => j = H) w1 wr
theorem reqs_low {w : World} {B : Nat} {A : Option Addr} {l : List Rq} (h : Has w B A (reqCells l)) {g : Nat} (hg : B ≤ g) : ∀ ad, A = some ad → l ≠ [] → ad.block ≠ g := by
  rintro ad rfl hl hz
  cases l with
  | nil => exact hl rfl
  | cons r l =>
    obtain ⟨ad', e, h1, _⟩ := h 0 (.int .i64 r.cl) rfl
    cases e
    omega
theorem cut_short (l : List Bt) : (cutS l).length ≤ 20 := by unfold cutS; rw [List.length_map, List.length_take]; omega
set_option maxRecDepth 100000 in
set_option maxHeartbeats 16000000 in
theorem ledgerClones_walk (a : Int) (A : Option Addr) (c : Nat) (la : List Bt) (A' : Option Addr) (c' : Nat) (lb_ : List Bt) (A'' : Option Addr) (c'' : Nat) (lc : List Bt) (w : World) (w0 : (Lit.int .i64 a).wf = true) (w1 : IsBats w A la c) (w2 : IsBats w A' lb_ c') (w3 : IsBats w A'' lc c'') :
    Calls Try.prog 8 #[.int .i64 a, .slice A la.length c, .slice A' lb_.length c', .slice A'' lc.length c''] w fun e w' => e = .returned (.bool true) ∧ Below w.heap.size w w' := by
  obtain ⟨n, hn1, hn4, hW, hwr, hw6⟩ := clients_of w0
  have HW := Lib.hid hW
  have HN4 := Lib.hid (And.intro hn1 hn4)
  have K1 := Lib.hid (cut_any w1 w (Below.refl _ _))
  have K2 := Lib.hid (cut_any w2)
  have K3 := Lib.hid (cut_any w3)
  have HB1 := Lib.hid w1.cut
  have HB2 := Lib.hid w2.cut
  have HB3 := Lib.hid w3.cut
  have HA1 := Lib.hid (allS_cut_len la)
  have HA2 := Lib.hid (allS_cut_len lb_)
  have HA3 := Lib.hid (allS_cut_len lc)
  have hm1 := cut_short la
  have hm2 := cut_short lb_
  have hm3 := cut_short lc
  obtain ⟨L1, hL1⟩ : ∃ L, cutS la = L := ⟨_, rfl⟩
  obtain ⟨L2, hL2⟩ : ∃ L, cutS lb_ = L := ⟨_, rfl⟩
  obtain ⟨L3, hL3⟩ : ∃ L, cutS lc = L := ⟨_, rfl⟩
  rw [hL1] at K1 HB1 HA1 hm1
  rw [hL2] at K2 HB2 HA2 hm2
  rw [hL3] at K3 HB3 HA3 hm3
  obtain ⟨m1, hq1⟩ : ∃ m, L1.length = m := ⟨_, rfl⟩
  obtain ⟨m2, hq2⟩ : ∃ m, L2.length = m := ⟨_, rfl⟩
  obtain ⟨m3, hq3⟩ : ∃ m, L3.length = m := ⟨_, rfl⟩
  rw [hq1] at K1 hm1
  rw [hq2] at K2 hm2
  rw [hq3] at K3 hm3
  have HM1 := Lib.hid hq1
  have HM2 := Lib.hid hq2
  have HM3 := Lib.hid hq3
  clear w0 w1 w2 w3 hW hL1 hL2 hL3 hq1 hq2 hq3 hn1 hn4
  go_enter Try.func8, Try.ntmps8
  go_wp2_with fail
  refine (HW.out _).mono ?_
  rintro e wv ⟨rfl, rfl⟩
  go_wp2_with fail
  refine K1.out.mono ?_
  rintro e w2 ⟨v, rfl, ho1, hb1⟩
  obtain ⟨A1, c1, rfl, -, -⟩ := own_slice ho1
  have K2' := Lib.hid (K2.out w2 hb1)
  have HW2 := Lib.hid hb1
  have HR1 := Lib.hid (has_rows ho1)
  clear ho1 hb1 K1 K2
  go_wp2_with fail
  refine K2'.out.mono ?_
  rintro e w3 ⟨v, rfl, ho2, hb2⟩
  obtain ⟨A2, c2, rfl, -, -⟩ := own_slice ho2
  have HW3 := Lib.hid (HW2.out.trans (hb2.mono HW2.out.size))
  have K3' := Lib.hid (K3.out w3 HW3.out)
  have HR2 := Lib.hid (has_rows ho2)
  have HR1' := Lib.hid (HR1.out.below hb2 (Nat.le_refl _)).tight
  clear ho2 hb2 K2' K3 HR1
  go_wp2_with fail
  refine K3'.out.mono ?_
  rintro e w4 ⟨v, rfl, ho3, hb3⟩
  obtain ⟨A3, c3, rfl, -, -⟩ := own_slice ho3
  have HW4 := Lib.hid (HW3.out.trans (hb3.mono HW3.out.size))
  have HR3 := Lib.hid (has_rows ho3)
  have HR2' := Lib.hid (HR2.out.below hb3 (Nat.le_refl _)).tight
  have HR1 := Lib.hid (HR1'.out.below hb3 (Nat.le_refl _)).tight
  have KF := Lib.hid (lfold_any HN4.out.1 HN4.out.2 (w := w4) (c := c1) HR1.out ((HB1.out.below HW4.out (Nat.le_refl _)).mono HW4.out.size) HM1.out (by omega) (by have := HA1.out; omega))
  clear ho3 hb3 K3' HR1' HR2
  have HR2 := Lib.hid HR2'.out
  go_wp2_with fail
  refine KF.out.mono ?_
  rintro e w5 ⟨bx, rfl, hl, hbN⟩
  obtain ⟨C0, C1, hz, hne, hset, hC1⟩ := led_made n
  have h0 : C0.size = 138 := by
    have := congrArg Array.size hset
    rw [Array.size_setIfInBounds, hC1, led_size] at this
    exact this
  have HZe := Lib.hid (And.intro hz h0)
  have HR6 := Lib.hid (rl_made (w := w5) HN4.out.2 C1 hC1)
  have hb6 : Below w5.heap.size w5 (w5.alloc (.cells C1 59)) := (Below.refl _ _).alloc (Nat.le_refl _) _
  have HX6 := Lib.hid (hl.below hb6)
  have HXN := Lib.hid (show bx.N ≤ 160 from Nat.le_trans hbN HA1.out)
  have HLt := Lib.hid (fun j (hj : bx.zone j) => hl.lg.lt hj)
  have HB46 := Lib.hid (hl.low.trans (hb6.mono hl.low.size))
  have HB1 := Lib.hid ((HB1.out.below HW4.out (Nat.le_refl _)).mono HW4.out.size)
  have HB2 := Lib.hid ((HB2.out.below HW4.out (Nat.le_refl _)).mono HW4.out.size)
  have HB3 := Lib.hid ((HB3.out.below HW4.out (Nat.le_refl _)).mono HW4.out.size)
  have HSz := Lib.hid (show w4.heap.size ≤ w5.heap.size from hl.low.size)
  obtain ⟨w6, hw6'⟩ : ∃ w6, w5.alloc (.cells C1 59) = w6 := ⟨_, rfl⟩
  obtain ⟨H, hH⟩ : ∃ H, w5.heap.size = H := ⟨_, rfl⟩
  rw [hw6'] at HR6 HX6 HB46
  rw [hH] at HR6 HLt HSz
  have HW6 := Lib.hid hw6'
  have HHh := Lib.hid hH
  have HHl := Lib.hid (show H < w6.heap.size from HR6.out.blk.lt)
  obtain ⟨lx, hlx⟩ : ∃ x, bx.lb = x := ⟨_, rfl⟩
  have HLx := Lib.hid hlx
  rw [hlx]
  clear hl hbN hb6 hC1 h0 hw6' hH hlx KF
  go_upto_region 7 with fail
  rw [HW6.out, HHh.out]
  clear hz hne hset
  have HS0 := Lib.hid (show RRef w6 H (Sc.new n) L1 0 ⟨H, none, 0⟩ w6 from ⟨HR6.out, rfl, fun ad e => (by cases e), Turn.refl _ _⟩)
  go_wp2_with fail
  go_loopw [44] (fun x wr => ∃ (k : Nat) (r : Rb), x = .int .i64 k ∧ k ≤ m1 ∧ Hid (RRef w6 H (Sc.new n) L1 k r wr)) (fun x _ => m1 - (intOf x).toNat)
  case atStart => exact ⟨0, _, rfl, Nat.zero_le _, HS0⟩
  case round =>
    obtain ⟨k, r, rfl, hk, HS⟩ := hrel
    have hBel : Below w4.heap.size w4 wr := HB46.out.trans (HS.out.tn.below HB46.out.size (fun j hj e => by have := HSz.out; omega))
    by_cases hlt : k < m1
    · have hkl : k < L1.length := by rw [HM1.out]; exact hlt
      obtain ⟨ad, hAd, _, c0⟩ := (HR1.out.below hBel (Nat.le_refl _)).bat hkl
      have hAw := HB1.out.has _ (List.getElem_mem hkl)
      obtain ⟨p, hp⟩ : ∃ p, L1[k].l.length = p := ⟨_, rfl⟩
      rw [hp] at c0
      have hle : (allS (L1.take k)).length + p ≤ 160 := by
        have := allS_le (l := L1) (k + 1)
        rw [allS_take hkl, List.length_append, hp] at this
        exact Nat.le_trans this HA1.out
      have hran : ((Sc.new n).ran (allS (L1.take k))).length ≤ 100000 := Nat.le_trans (Sc.ran_len _ _) (by omega)
      have KR := Lib.hid (rrun_any HS.out.rl hran (c := L1[k].c) (hAw.below hBel (Nat.le_refl _)) (reqs_low (hAw.below hBel (Nat.le_refl _)) (by have := HS.out.rb; have := HSz.out; omega)) hp (by omega))
      rw [HS.out.rb] at KR
      have HSz6 := Lib.hid (show w6.heap.size ≤ wr.heap.size from HS.out.tn.size)
      obtain ⟨xA, hxA⟩ : ∃ x, L1[k].A = x := ⟨_, rfl⟩
      obtain ⟨xc, hxc⟩ : ∃ x, L1[k].c = x := ⟨_, rfl⟩
      rw [hxA, hxc] at c0 KR
      clear hAw hp hle hran hxA hxc
      rw [hAd]
      go_wp2_with fail
      refine KR.out.mono ?_
      rintro e wy ⟨v7, A7', c7', rfl, hrl7, -, hA7, -, ht7⟩
      have HF := Lib.hid (show RRef w6 H (Sc.new n) L1 (k + 1) ⟨H, A7', c7'⟩ wy from ⟨by rw [allS_take hkl, Sc.run_app, Sc.ran_app]; exact hrl7, rfl, fun ad e => Nat.le_trans HSz6.out (hA7 ad e), HS.out.tn.trans ht7⟩)
      clear hrl7 hA7 ht7 KR
      go_wp2_with fail
      go_roundw
      case rel => exact ⟨k + 1, _, by go_num, by omega, HF⟩
      case measure => simp [intOf]; omega
    · have he : L1.take k = L1 := List.take_of_length_le (by rw [HM1.out]; omega)
      have hrl := HS.out.rl
      have hrb := HS.out.rb
      have hnew := HS.out.new
      have htn := HS.out.tn
      rw [he] at hrl
      obtain ⟨S, hS⟩ : ∃ S, (Sc.new n).run (allS L1) = S := ⟨_, rfl⟩
      obtain ⟨E, hE⟩ : ∃ E, (Sc.new n).ran (allS L1) = E := ⟨_, rfl⟩
      have hlate : Late S.2 := by rw [← hS]; exact Sc.late_run _ (late_new n)
      have hx7 : Lx w4 bx S E wr := by
        rw [← hS, ← hE]
        exact HX6.out.kept htn (fun j hj e => by have := HLt.out j hj; omega) (fun j e => by have := HSz.out; omega)
      rw [hS, hE] at hrl
      obtain ⟨rb, rA, rc⟩ := r
      have hrb : rb = H := hrb
      subst hrb
      have HX7 := Lib.hid hx7
      have HRl7 := Lib.hid hrl
      have HLate := Lib.hid hlate
      have HNew := Lib.hid (show ∀ ad, rA = some ad → w6.heap.size ≤ ad.block from hnew)
      have HSz67 := Lib.hid htn.size
      have KC := Lib.hid (lclone_any hx7.lg (by have := HXN.out; omega))
      rw [HLx.out] at KC
      clear he hrl hnew htn hS hE hlate hx7 hBel HS HS0 HR6
      go_wp2_with fail
      refine KC.out.mono ?_
      rintro e w8 ⟨by0, rfl, hy8, hyN, hyz, hb8⟩
      have HX8 := Lib.hid (HX7.out.below hb8)
      have HRl8 := Lib.hid (HRl7.out.below hb8)
      have HYz := Lib.hid hyz
      have HYN := Lib.hid (show by0.N ≤ 160 by rw [hyN]; exact HXN.out)
      have HSz78 := Lib.hid hb8.size
      have HY8 := Lib.hid (show Lx w4 by0 S E w8 from ⟨hy8, HX8.out.low, fun j hj => by have h1 := hyz j hj; have h2 := HX7.out.low.size; omega⟩)
      have KS := Lib.hid (lsame_yes HX8.out.lg hy8 (by have := HXN.out; omega))
      rw [HLx.out] at KS
      have HX7z := Lib.hid (fun j (hj : bx.zone j) => HX7.out.lg.lt hj)
      have HR7z := Lib.hid (fun j (hj : (⟨rb, rA, rc⟩ : Rb).zone j) => HRl7.out.lt hj)
      obtain ⟨ly, hly⟩ : ∃ x, by0.lb = x := ⟨_, rfl⟩
      have HLy := Lib.hid hly
      rw [hly] at KS ⊢
      clear hy8 hyN hyz hb8 hly KC
      go_wp2_with fail
      refine KS.out.mono ?_
      rintro e w9 ⟨rfl, hb9⟩
      have HX9 := Lib.hid (HX8.out.below hb9)
      have HY9 := Lib.hid (HY8.out.below hb9)
      have hrl9 := HRl8.out.below hb9
      have HSz89 := Lib.hid hb9.size
      have HY8z := Lib.hid (fun j (hj : by0.zone j) => HY8.out.lg.lt hj)
      obtain ⟨hz, h0⟩ := HZe.out
      have hld := dload hrl9.blk
      have hst := dstore w9 C0 h0 S.2.length S.1 S.2 rA E.length rc
      have HRl9 := Lib.hid hrl9
      obtain ⟨C, hC⟩ : ∃ C, ledCells S.2.length S.1 (zC S.2 rA E.length rc) = C := ⟨_, rfl⟩
      have HCc := Lib.hid hC
      rw [hC] at hst hld
      have hCs : C.size = 138 := by rw [← hC, led_size]; rfl
      clear hb9 KS hrl9 h0 hC
      go_wp2_with fail
      refine wp_load_whole _ _ rfl rb C rfl hld ?_
      clear hld
      have hb10 : Below w9.heap.size w9 (w9.alloc (.cells C 59)) := (Below.refl _ _).alloc (Nat.le_refl _) _
      have hrs : Rl (w9.alloc (.cells C 59)) ⟨w9.heap.size, rA, rc⟩ S E := ⟨HCc.out ▸ Blk.new w9 _ _, (HRl9.out.has.below hb10 (Nat.le_refl _)).tight, HRl9.out.nil, HRl9.out.le, HRl9.out.n4, HRl9.out.ok, fun ad e => by
        have h1 : ad.block < w9.heap.size := (HRl9.out.off ad e).2
        exact ⟨by show ad.block ≠ w9.heap.size; omega, Nat.lt_of_lt_of_le h1 hb10.size⟩⟩
      have hp10 : Pr w4 (w9.alloc (.cells C 59)) bx ⟨rb, rA, rc⟩ S E L2 0 bx ⟨rb, rA, rc⟩ (w9.alloc (.cells C 59)) := Pr.start (HX9.out.below hb10) (HRl9.out.below hb10) (fun j hj hz => by
          have h1 := HLt.out j hj
          rcases hz with e | ⟨ad, e, h2⟩
          · have e : j = rb := e; omega
          · have h3 := HNew.out ad e; have h4 := HHl.out; omega) (fun j hz => by
          rcases hz with e | ⟨ad, e, h2⟩
          · have e : j = rb := e; have := HSz.out; omega
          · have h3 := HNew.out ad e; have h4 := HHl.out; have := HSz.out; omega)
      have hy10 := HY9.out.below hb10
      have hsz : rb < w9.heap.size ∧ w8.heap.size ≤ w9.heap.size := ⟨HRl9.out.blk.lt, HSz89.out⟩
      have hA9 : ∀ ad, rA = some ad → ad.block < w8.heap.size := fun ad e => (HRl8.out.off ad e).2
      obtain ⟨g, hg⟩ : ∃ g, w9.heap.size = g := ⟨_, rfl⟩
      obtain ⟨w10, hw10⟩ : ∃ w10, w9.alloc (.cells C 59) = w10 := ⟨_, rfl⟩
      rw [hg] at hsz hrs
      rw [hw10] at hrs hp10 hy10
      have HRs := Lib.hid hrs
      have HP0 := Lib.hid hp10
      have HY10 := Lib.hid hy10
      have HGz := Lib.hid hsz
      have HG10 := Lib.hid (show g < w10.heap.size from hrs.blk.lt)
      have HA9 := Lib.hid hA9
      have HW10 := Lib.hid hw10
      have HGg := Lib.hid hg
      clear hb10 hrs hp10 hy10 hsz hA9 hw10 hg HX9 HY9 HRl9 HX8 HY8 HRl8
      go_upto_region 16 with fail
      rw [HW10.out, HGg.out]
      clear hst hz
      go_wp2_with fail
      go_loopw [69] (fun x wr => ∃ (k : Nat) (b : Lb) (r : Rb), x = .int .i64 k ∧ k ≤ m2 ∧ Hid (Pr w4 w10 bx ⟨rb, rA, rc⟩ S E L2 k b r wr)) (fun x _ => m2 - (intOf x).toNat)
      case atStart => exact ⟨0, _, _, rfl, Nat.zero_le _, HP0⟩
      case round =>
        obtain ⟨k, b, r, rfl, hk, HS⟩ := hrel
        by_cases hlt : k < m2
        · have hkl : k < L2.length := by rw [HM2.out]; exact hlt
          obtain ⟨ad, hAd, _, c0⟩ := (HR2.out.below HS.out.lx.low (Nat.le_refl _)).bat hkl
          have hxm : L2[k] ∈ L2 := List.getElem_mem hkl
          have hAw := HB2.out.has _ hxm
          obtain ⟨p, hp⟩ : ∃ p, L2[k].l.length = p := ⟨_, rfl⟩
          rw [hp] at c0
          have hle : (allS (L2.take k)).length + p ≤ 160 := by
            have := allS_le (l := L2) (k + 1)
            rw [allS_take hkl, List.length_append, hp] at this
            exact Nat.le_trans this HA2.out
          have HAd := Lib.hid hAd
          have HAw := Lib.hid hAw
          have HP := Lib.hid hp
          have HLe := Lib.hid hle
          have hN : b.N + p ≤ 2000 := by have h1 := HS.out.n; have h2 := HXN.out; omega
          have KX := Lib.hid (lx_run HS.out.lx (c := L2[k].c) (hAw.below HS.out.lx.low (Nat.le_refl _)) ((hAw.below HS.out.lx.low (Nat.le_refl _)).off HS.out.lx.up) hp (by omega))
          rw [HS.out.sb, HLx.out] at KX
          have HNp := Lib.hid hN
          obtain ⟨xA, hxA⟩ : ∃ x, L2[k].A = x := ⟨_, rfl⟩
          obtain ⟨xc, hxc⟩ : ∃ x, L2[k].c = x := ⟨_, rfl⟩
          rw [hxA, hxc] at c0
          rw [hxA, hxc] at KX
          have HXa := Lib.hid hxA
          have HXc := Lib.hid hxc
          clear hxm hAw hp hN hxA hxc hle
          rw [hAd]
          go_wp2_with fail
          refine KX.out.mono ?_
          rintro e wv ⟨v6, b', rfl, hR⟩
          have hH := HS.out.half hR
          obtain ⟨ad', e, _, c9⟩ := (HR2.out.below hH.lx.low (Nat.le_refl _)).bat hkl
          rw [HAd.out] at e
          cases e
          rw [HP.out, HXa.out, HXc.out] at c9
          have hrw : w4.heap.size ≤ r.rb := hH.rup _ (Or.inl rfl)
          have hrr : r.rb = rb := hH.sr
          have KR := Lib.hid (rrun_any hH.rl (Nat.le_trans HS.out.lx.lg.few (by have := HNp.out; omega)) (c := L2[k].c) (HAw.out.below hH.lx.low (Nat.le_refl _)) (reqs_low (HAw.out.below hH.lx.low (Nat.le_refl _)) hrw) HP.out (by have := HLe.out; omega))
          rw [HXa.out, HXc.out, hrr] at KR
          have HH := Lib.hid hH
          have HRr := Lib.hid hrr
          clear c0 hR KX hH hrw hrr
          go_wp2_with fail
          refine KR.out.mono ?_
          rintro e wy ⟨v7, A7', c7', rfl, hrl7, -, hA7, -, ht7⟩
          have HF := Lib.hid (HH.out.full hkl (A' := A7') (c' := c7') (by rw [HRr.out]; exact hrl7) hA7 (by rw [HRr.out]; exact ht7))
          clear hrl7 hA7 ht7 KR HH
          go_wp2_with fail
          go_roundw
          case rel => exact ⟨k + 1, _, _, by go_num, by omega, HF⟩
          case measure => simp [intOf]; omega
        · have he : L2.take k = L2 := List.take_of_length_le (by rw [HM2.out]; omega)
          have HFin := Lib.hid HS.out
          have HE2 := Lib.hid he
          clear HS he
          have HX11 := Lib.hid HFin.out.lx
          have hy11 : Lx w4 by0 S E wr := HY10.out.kept HFin.out.tn (fun j hj hz => by
              have h1 := HYz.out j hj
              have h2 := HY8z.out j hj
              rcases hz with e | e
              · have := HX7z.out j e; omega
              · have e : j = rb := e
                have := HR7z.out rb (Or.inl rfl); omega) (fun j hz => by
              rcases hz with e | e
              · exact HX7.out.up j e
              · have e : j = rb := e
                have := HSz.out; omega)
          have hrs11 : Rl wr ⟨g, rA, rc⟩ S E := HRs.out.kept HFin.out.tn (fun j hj hz => by
              have h0 := HGz.out
              have h5 := HSz78.out
              rcases hj with e | ⟨ad, e, h2⟩
              · have e : j = g := e
                rcases hz with e2 | e2
                · have := HX7z.out j e2; omega
                · have e2 : j = rb := e2; omega
              · have h3 := HNew.out ad e
                rcases hz with e2 | e2
                · have := HLt.out j e2; have := HHl.out; omega
                · have e2 : j = rb := e2; have := HHl.out; omega)
          have HS1 := Lib.hid (Pr.start (L := L3) hy11 hrs11 (fun j hj hz => by
              have h1 := HYz.out j hj
              have h2 := HY8z.out j hj
              have h0 := HGz.out
              rcases hz with e | ⟨ad, e, h3⟩
              · have e : j = g := e; omega
              · have h4 := HR7z.out ad.block (Or.inr ⟨ad, e, rfl⟩); omega) (fun j hz => by
              have h0 := HGz.out
              have h5 := HSz78.out
              have h6 := HX7.out.low.size
              rcases hz with e | ⟨ad, e, h3⟩
              · have e : j = g := e; omega
              · have h3' := HNew.out ad e; have := HHl.out; have := HSz.out; omega))
          obtain ⟨w11, hw11⟩ : ∃ w11, w11 = wr := ⟨_, rfl⟩
          subst hw11
          have HFA := Lib.hid HFin.out
          have HN11 := Lib.hid (show w10.heap.size ≤ w11.heap.size from HFin.out.tn.size)
          obtain ⟨bA, hbA⟩ : ∃ x, x = b := ⟨_, rfl⟩
          subst hbA
          obtain ⟨rA2, hrA2⟩ : ∃ x, x = r := ⟨_, rfl⟩
          subst hrA2
          clear hy11 hrs11 HFin
          go_wp2_with fail
          go_loopw [87] (fun x wr => ∃ (k : Nat) (b : Lb) (r : Rb), x = .int .i64 k ∧ k ≤ m3 ∧ Hid (Pr w4 w11 by0 ⟨g, rA, rc⟩ S E L3 k b r wr)) (fun x _ => m3 - (intOf x).toNat)
          case atStart => exact ⟨0, _, _, rfl, Nat.zero_le _, HS1⟩
          case round =>
            obtain ⟨k, b, r, rfl, hk, HS⟩ := hrel
            by_cases hlt : k < m3
            · have hkl : k < L3.length := by rw [HM3.out]; exact hlt
              obtain ⟨ad, hAd, _, c0⟩ := (HR3.out.below HS.out.lx.low (Nat.le_refl _)).bat hkl
              have hxm : L3[k] ∈ L3 := List.getElem_mem hkl
              have hAw := HB3.out.has _ hxm
              obtain ⟨p, hp⟩ : ∃ p, L3[k].l.length = p := ⟨_, rfl⟩
              rw [hp] at c0
              have hle : (allS (L3.take k)).length + p ≤ 160 := by
                have := allS_le (l := L3) (k + 1)
                rw [allS_take hkl, List.length_append, hp] at this
                exact Nat.le_trans this HA3.out
              have HAd := Lib.hid hAd
              have HAw := Lib.hid hAw
              have HP := Lib.hid hp
              have HLe := Lib.hid hle
              have hN : b.N + p ≤ 2000 := by have h1 := HS.out.n; have h2 := HYN.out; omega
              have KX := Lib.hid (lx_run HS.out.lx (c := L3[k].c) (hAw.below HS.out.lx.low (Nat.le_refl _)) ((hAw.below HS.out.lx.low (Nat.le_refl _)).off HS.out.lx.up) hp (by omega))
              rw [HS.out.sb, HLy.out] at KX
              have HNp := Lib.hid hN
              obtain ⟨xA, hxA⟩ : ∃ x, L3[k].A = x := ⟨_, rfl⟩
              obtain ⟨xc, hxc⟩ : ∃ x, L3[k].c = x := ⟨_, rfl⟩
              rw [hxA, hxc] at c0
              rw [hxA, hxc] at KX
              have HXa := Lib.hid hxA
              have HXc := Lib.hid hxc
              clear hxm hAw hp hN hxA hxc hle
              rw [hAd]
              go_wp2_with fail
              refine KX.out.mono ?_
              rintro e wv ⟨v6, b', rfl, hR⟩
              have hH := HS.out.half hR
              obtain ⟨ad', e, _, c9⟩ := (HR3.out.below hH.lx.low (Nat.le_refl _)).bat hkl
              rw [HAd.out] at e
              cases e
              rw [HP.out, HXa.out, HXc.out] at c9
              have hrw : w4.heap.size ≤ r.rb := hH.rup _ (Or.inl rfl)
              have hrr : r.rb = g := hH.sr
              have KR := Lib.hid (rrun_any hH.rl (Nat.le_trans HS.out.lx.lg.few (by have := HNp.out; omega)) (c := L3[k].c) (HAw.out.below hH.lx.low (Nat.le_refl _)) (reqs_low (HAw.out.below hH.lx.low (Nat.le_refl _)) hrw) HP.out (by have := HLe.out; omega))
              rw [HXa.out, HXc.out, hrr] at KR
              have HH := Lib.hid hH
              have HRr := Lib.hid hrr
              clear c0 hR KX hH hrw hrr
              go_wp2_with fail
              refine KR.out.mono ?_
              rintro e wy ⟨v7, A7', c7', rfl, hrl7, -, hA7, -, ht7⟩
              have HF := Lib.hid (HH.out.full hkl (A' := A7') (c' := c7') (by rw [HRr.out]; exact hrl7) hA7 (by rw [HRr.out]; exact ht7))
              clear hrl7 hA7 ht7 KR HH
              go_wp2_with fail
              go_roundw
              case rel => exact ⟨k + 1, _, _, by go_num, by omega, HF⟩
              case measure => simp [intOf]; omega
            · have he : L3.take k = L3 := List.take_of_length_le (by rw [HM3.out]; omega)
              have HFin := Lib.hid HS.out
              have HE3 := Lib.hid he
              clear HS he
              have hxA := HFA.out.lx.kept HFin.out.tn (fun j hj hz => by
                  have h1 := HFA.out.zb j hj
                  rcases hz with e | e
                  · have h2 := HYz.out j e
                    have h3 := HY8z.out j e
                    rcases h1 with h1 | h1
                    · have := HX7z.out j h1; omega
                    · have := HGz.out; have := HG10.out; omega
                  · have e : j = g := e
                    rcases h1 with h1 | h1
                    · have := HX7z.out j h1; have := HSz78.out; have := HGz.out; omega
                    · have := HG10.out; omega) (fun j hz => by
                  rcases hz with e | e
                  · exact HY10.out.up j e
                  · have e : j = g := e
                    have := HGz.out; have := HSz78.out; have := HX7.out.low.size; omega)
              have hrA := HFA.out.rl.kept HFin.out.tn (fun j hj hz => by
                  have h1 := HFA.out.zr j hj
                  rcases hz with e | e
                  · have h2 := HYz.out j e
                    have h3 := HY8z.out j e
                    rcases h1 with h1 | h1
                    · have := HR7z.out j h1; omega
                    · have := HGz.out; have := HG10.out; omega
                  · have e : j = g := e
                    rcases h1 with h1 | h1
                    · have := HR7z.out j h1; have := HSz78.out; have := HGz.out; omega
                    · have := HG10.out; omega)
              have hxB := HFin.out.lx
              have hrB := HFin.out.rl
              have hsA : bA.lb = lx := HFA.out.sb.trans HLx.out
              have hsB : b.lb = ly := HFin.out.sb.trans HLy.out
              have hrbA : rA2.rb = rb := HFA.out.sr
              have hrbB : r.rb = g := HFin.out.sr
              have hnA := HFA.out.n
              have hnB := HFin.out.n
              have hlA : Late ((S.run (allS L2))).2 := Sc.late_run _ HLate.out
              have hlB : Late ((S.run (allS L3))).2 := Sc.late_run _ HLate.out
              rw [HE2.out] at hxA hrA hnA
              rw [HE3.out] at hxB hrB hnB
              have HNA := Lib.hid (show bA.N ≤ 100000 by have := HXN.out; have := HA2.out; omega)
              have HNB := Lib.hid (show b.N ≤ 100000 by have := HYN.out; have := HA3.out; omega)
              obtain ⟨SA, hSA⟩ : ∃ x, S.run (allS L2) = x := ⟨_, rfl⟩
              obtain ⟨EA, hEA⟩ : ∃ x, E ++ S.ran (allS L2) = x := ⟨_, rfl⟩
              obtain ⟨SB, hSB⟩ : ∃ x, S.run (allS L3) = x := ⟨_, rfl⟩
              obtain ⟨EB, hEB⟩ : ∃ x, E ++ S.ran (allS L3) = x := ⟨_, rfl⟩
              rw [hSA, hEA] at hxA hrA
              rw [hSB, hEB] at hxB hrB
              rw [hSA] at hlA
              rw [hSB] at hlB
              have HXA := Lib.hid hxA
              have HRA := Lib.hid hrA
              have HXB := Lib.hid hxB
              have HRB := Lib.hid hrB
              have HLA := Lib.hid hlA
              have HLB := Lib.hid hlB
              have HsA := Lib.hid hsA
              have HsB := Lib.hid hsB
              have HrA := Lib.hid hrbA
              have HrB := Lib.hid hrbB
              have KS := Lib.hid (lstore_any hxA.lg)
              rw [hsA] at KS
              clear hxA hrA hxB hrB hlA hlB hsA hsB hrbA hrbB hnA hnB hSA hEA hSB hEB HFin HFA HS1 HP0
              go_wp2_with fail
              refine KS.out.mono ?_
              rintro e w13 ⟨sb, bm, rfl, hst, hq1, hq2, hb13⟩
              have KAp := Lib.hid (sapply_any hst (by have := HNA.out; unfold maxLen; omega) 1 1 77)
              have HXA13 := Lib.hid (HXA.out.below hb13)
              have HRA13 := Lib.hid (HRA.out.below hb13)
              have HXB13 := Lib.hid (HXB.out.below hb13)
              have HRB13 := Lib.hid (HRB.out.below hb13)
              have HQ := Lib.hid hq2
              have HzA := Lib.hid (fun j (hj : bA.zone j) => HXA.out.lg.lt hj)
              have HzB := Lib.hid (fun j (hj : b.zone j) => HXB.out.lg.lt hj)
              have HyA := Lib.hid (fun j (hj : rA2.zone j) => HRA.out.lt hj)
              have HyB := Lib.hid (fun j (hj : r.zone j) => HRB.out.lt hj)
              have HQ4 := Lib.hid (show w4.heap.size ≤ bm from Nat.le_trans HXA.out.low.size hq2)
              clear hst hq1 hq2 hb13 KS HXA HRA HXB HRB
              go_wp2_with fail
              refine KAp.out.mono ?_
              rintro e w14 ⟨rfl, -, ht14⟩
              have HXA14 := Lib.hid (HXA13.out.kept ht14 (fun j hj e => by have e : j = bm := e; have := HzA.out j hj; have := HQ.out; omega) (fun j e => by have e : j = bm := e; have := HQ4.out; omega))
              have HRA14 := Lib.hid (HRA13.out.kept ht14 (fun j hj e => by have e : j = bm := e; have := HyA.out j hj; have := HQ.out; omega))
              have HXB14 := Lib.hid (HXB13.out.kept ht14 (fun j hj e => by have e : j = bm := e; have := HzB.out j hj; have := HQ.out; omega) (fun j e => by have e : j = bm := e; have := HQ4.out; omega))
              have HRB14 := Lib.hid (HRB13.out.kept ht14 (fun j hj e => by have e : j = bm := e; have := HyB.out j hj; have := HQ.out; omega))
              have KRA := Lib.hid (right12_any HXA14.out.lg HRA14.out HNA.out HLA.out)
              rw [HsA.out, HrA.out] at KRA
              clear ht14 KAp HXA13 HRA13 HXB13 HRB13
              go_wp2_with fail
              refine KRA.out.mono ?_
              rintro e w15 ⟨rfl, hb15⟩
              have HXB15 := Lib.hid (HXB14.out.below hb15)
              have KRB := Lib.hid (right12_any HXB15.out.lg (HRB14.out.below hb15) HNB.out HLB.out)
              rw [HsB.out, HrB.out] at KRB
              clear hb15 KRA HXA14 HRA14 HXB14 HRB14
              go_wp2_with fail
              refine KRB.out.mono ?_
              rintro e w16 ⟨rfl, hb16⟩
              have HXB16 := Lib.hid (HXB15.out.below hb16)
              clear hb16 KRB HXB15
              go_wp2_with fail
              refine (wakes12_any _).mono ?_
              rintro e w17 ⟨rfl, hb17⟩
              go_wp2_with fail
              go_ret
              have h1 := HW4.out.trans (HXB16.out.low.mono HW4.out.size)
              exact ⟨rfl, h1.trans (hb17.mono h1.size)⟩
end Go.Proofs.Ytpjcedilkahpiaa
