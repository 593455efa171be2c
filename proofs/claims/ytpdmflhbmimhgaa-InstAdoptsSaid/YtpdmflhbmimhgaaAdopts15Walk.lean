/- The walk of InstAdopts: it returns true for any int, ints and int. -/
import Derived.Test.YtpdmflhbmimhgaaInstMk
import Derived.Test.YtpdmflhbmimhgaaInstAv
namespace Go.Proofs.Ytpdmflhbmimhgaa
open Go.RowKit
set_option linter.unusedSimpArgs false

def aR (k : Nat) : Rq := ⟨0, (k : Int), 0, 0, 0, 0⟩
def aC (k : Nat) : Ct := ⟨0, 1, (k : Int), [aR k], []⟩
def aA (n k : Nat) : Px := ⟨Sx.new n, none, some (aC k)⟩
def aB (n : Nat) (_ : Nat) : Px := ⟨Sx.new n, none, none⟩
def aX (f vw : Int) (on : Bool) (n : Nat) (bs : List Bool) : Ix := ⟨f, 1, 2, vw, on, mkL (aA n) (aB n) bs⟩
theorem aX_new (f : Int) (n : Nat) : Ix.new f 1 2 n = aX f 0 true n no18 := rfl
theorem aX_gone (f v : Int) (n : Nat) : (Ix.new f 1 2 n).gone n v 16 = aX f v false n no18 := rfl
theorem ad_cells {w : World} {g gb k : Nat} {a1 a2 a3 a4 a5 v : Value} (h : Blk w g 31 #[a1, a2, a3, a4, a5]) (hv : w.cell? ⟨gb, k, none⟩ = some v) :
    w.cell? ⟨g, 0, none⟩ = some a1 ∧ w.cell? ⟨g, 1, none⟩ = some a2 ∧ w.cell? ⟨g, 2, none⟩ = some a3 ∧ w.cell? ⟨g, 3, none⟩ = some a4 ∧ w.cell? ⟨g, 4, none⟩ = some a5 ∧ w.cell? ⟨gb, k, none⟩ = some v :=
  ⟨h.cell 0, h.cell 1, h.cell 2, h.cell 3, h.cell 4, hv⟩
theorem aX_used (f vw : Int) (on : Bool) (n : Nat) {bs : List Bool} {k : Nat} (hk : k < 16) (hb : bs[k + 1]? = some true) : usedB (aX f vw on n bs).L (aR (k + 1)) = true := by
  have hat : (aX f vw on n bs).L[k]? = some (aA n (k + 1)) := by
    show (mkL _ _ _)[k]? = _
    rw [mkL_at hk, if_pos hb]
  refine usedB_of hat ?_
  show (hasB [] (aR (k + 1)) || hasB [aR (k + 1)] (aR (k + 1))) = true
  unfold hasB
  simp
set_option maxRecDepth 100000 in
set_option maxHeartbeats 16000000 in
theorem instAdopts_walk (a0 : Int) (A : Option Addr) (c : Nat) (zs : List Int) (a2 : Int) (w : World) (w0 : (Lit.int .i64 a0).wf = true) (w1 : IsList .i64 w A zs c) (w2 : (Lit.int .i64 a2).wf = true) :
    Calls Try.prog 9 #[.int .i64 a0, .slice A zs.length c, .int .i64 a2] w fun e w' => e = .returned (.bool true) ∧ Below w.heap.size w w' := by
  obtain ⟨b0, b1⟩ := wf_i64 w0
  obtain ⟨b2, b3⟩ := wf_i64 w2
  have HW4 := Lib.hid (fun w => within_any a0 4 (by omega) (by omega) b0 b1 w)
  have HWv := Lib.hid (fun w => within_any a2 12 (by omega) (by omega) b2 b3 w)
  obtain ⟨p, hp⟩ : ∃ p : Nat, a0 % 4 = p := ⟨(a0 % 4).toNat, by omega⟩
  obtain ⟨v, hv⟩ : ∃ p : Nat, a2 % 12 = p := ⟨(a2 % 12).toNat, by omega⟩
  rw [hp] at HW4
  rw [hv] at HWv
  have hp4 : (p : Int) < 4 := by omega
  have hv12 : (v : Int) < 12 := by omega
  obtain ⟨n, hn⟩ : ∃ n : Nat, (n : Int) = 3 * (1 + (p : Int)) + 1 := ⟨3 * p + 4, by omega⟩
  have HNew := Lib.hid (fun w => r_new (f := 1 + (p : Int)) (num := 1) (ah := 2) (n := n) (by omega) (by omega) (by omega) (by omega) (by omega) (by omega) hn w w (Below.refl _ _))
  have HNn := Lib.hid hn
  have HL := Lib.hid w1
  obtain ⟨m0, hm0⟩ : ∃ m, zs.length = m := ⟨_, rfl⟩
  have HN := Lib.hid hm0
  have HMx := Lib.hid (show m0 ≤ maxLen by rw [← hm0]; exact Nat.le_trans HL.out.le HL.out.most)
  simp only [hm0]
  clear w0 w1 w2 b0 b1 b2 b3 hp hv hn hm0
  go_enter Try.func9, Try.ntmps9
  go_wp2_with fail
  refine (HW4.out _).mono ?_
  rintro e wa ⟨rfl, rfl⟩
  go_wp2_with fail
  refine (HNew.out _).mono ?_
  rintro e w1 ⟨ib, rfl, hR, -⟩
  have HR0 := Lib.hid hR
  clear hR
  go_wp2_with fail
  refine (HWv.out _).mono ?_
  rintro e wa ⟨rfl, rfl⟩
  by_cases hv0 : 0 < v
  · have hv1 : (0 : Int) < (v : Int) := by omega
    have HLv := Lib.hid (r_leave HR0.out (v := v) hv1 (by omega) (n := n) HNn.out)
    clear hv0
    go_wp2_with fail
    refine HLv.out.mono ?_
    rintro e w2 ⟨rfl, hr, -⟩
    have HRx := Lib.hid (show ∃ vw on, Ri w ib (aX (1 + (p : Int)) vw on n no18) w2 from ⟨v, false, hr⟩)
    clear hr HLv HR0
    go_wp2_with fail
    obtain ⟨vw, on, hR⟩ := HRx.out
    have HX := Lib.hid (show Blk (w2.alloc (.cells (boolCells no18) 37)) w2.heap.size 37 (boolCells no18) from Blk.new w2 _ _)
    have HR := Lib.hid (hR.below (wz := w2.alloc (.cells (boolCells no18) 37)) ((Below.refl _ _).alloc (Nat.le_refl _) _))
    have HG := Lib.hid (show w.heap.size ≤ w2.heap.size from hR.low.size)
    obtain ⟨gb, hgb⟩ : ∃ y, w2.heap.size = y := ⟨_, rfl⟩
    rw [hgb] at HX HG ⊢
    clear hR hgb HRx
    go_loopw [11] (fun y wr => ∃ (i : Nat) (bs : List Bool), y = .int .i64 i ∧ i ≤ m0 ∧ i ≤ 60 ∧ Hid (bs.length = 18 ∧ bs[17]? = some false) ∧ Hid (Ri w ib (aX (1 + (p : Int)) vw on n bs) wr) ∧ Hid (Blk wr gb 37 (boolCells bs))) (fun y _ => m0 - (intOf y).toNat)
    case atStart => exact ⟨0, no18, rfl, Nat.zero_le _, Nat.zero_le _, ⟨rfl, rfl⟩, HR, HX⟩
    case round =>
      clear HR HX
      obtain ⟨i, bs, rfl, hi, hi60, HLn, HR, HX⟩ := hrel
      by_cases hlt : i < m0 ∧ i < 60
      · obtain ⟨hlt1, hlt2⟩ := hlt
        have hlti : (i : Int) < (m0 : Int) := by omega
        have hlti2 : (i : Int) < 60 := by omega
        obtain ⟨ad, z1, rfl, hab, hc1, hd1, hzm1⟩ := (HL.out.has.below HR.out.low (Nat.le_refl _)).int (show i < zs.length by rw [HN.out]; exact hlt1)
        obtain ⟨y1, y2⟩ := wf_i64 (HL.out.fits z1 hzm1)
        have HW1 := Lib.hid (fun (w : World) => within_any z1 16 (by omega) (by omega) y1 y2 w)
        obtain ⟨kk, hk⟩ : ∃ k : Nat, z1 % 16 = k := ⟨(z1 % 16).toNat, by omega⟩
        have hkk : (kk : Int) < 16 := by omega
        rw [hk] at HW1
        have hk16 : kk < 16 := by omega
        clear hk y1 y2 hzm1 hd1 hab
        go_wp2_with fail
        refine (HW1.out _).mono ?_
        rintro e wq ⟨rfl, rfl⟩
        clear hc1
        go_wp2_with fail
        rw [Int.add_comm 1 (kk : Int)]
        have HBq := Lib.hid (show Blk ((wr.alloc (.cells #[.int .i64 0, .int .i64 ((kk : Int) + 1), .int .i64 0, .int .i64 0, .int .i64 0, .int .i64 0] 41)).alloc (.cells #[.int .i64 0, .int .i64 1, .int .i64 ((kk : Int) + 1), .slice (some ⟨wr.heap.size, 0, none⟩) 1 1, .slice none 0 0] 31)) wr.heap.size 41 (rqCells (aR (kk + 1))) from (Blk.new wr _ _).alloc _)
        have HBc := Lib.hid (show Blk ((wr.alloc (.cells #[.int .i64 0, .int .i64 ((kk : Int) + 1), .int .i64 0, .int .i64 0, .int .i64 0, .int .i64 0] 41)).alloc (.cells #[.int .i64 0, .int .i64 1, .int .i64 ((kk : Int) + 1), .slice (some ⟨wr.heap.size, 0, none⟩) 1 1, .slice none 0 0] 31)) (wr.heap.size + 1) 31 #[.int .i64 0, .int .i64 1, .int .i64 ((kk : Int) + 1), .slice (some ⟨wr.heap.size, 0, none⟩) 1 1, .slice none 0 0] from Blk.new1 wr _ _ _)
        have HRa := Lib.hid (show Rv w ib (aX (1 + (p : Int)) vw on n bs) (wr.heap.size + 1) ((wr.alloc (.cells #[.int .i64 0, .int .i64 ((kk : Int) + 1), .int .i64 0, .int .i64 0, .int .i64 0, .int .i64 0] 41)).alloc (.cells #[.int .i64 0, .int .i64 1, .int .i64 ((kk : Int) + 1), .slice (some ⟨wr.heap.size, 0, none⟩) 1 1, .slice none 0 0] 31)) from HR.out.fresh (Nat.le_succ _) (((Below.refl _ wr).alloc (Nat.le_refl _) _).alloc (by simp) _))
        have HXa := Lib.hid (show Blk ((wr.alloc (.cells #[.int .i64 0, .int .i64 ((kk : Int) + 1), .int .i64 0, .int .i64 0, .int .i64 0, .int .i64 0] 41)).alloc (.cells #[.int .i64 0, .int .i64 1, .int .i64 ((kk : Int) + 1), .slice (some ⟨wr.heap.size, 0, none⟩) 1 1, .slice none 0 0] 31)) gb 37 (boolCells bs) from (HX.out.alloc _).alloc _)
        have HGc := Lib.hid (show w.heap.size ≤ wr.heap.size + 1 from Nat.le_succ_of_le HR.out.low.size)
        obtain ⟨wa, hwa⟩ : ∃ y, (wr.alloc (.cells #[.int .i64 0, .int .i64 ((kk : Int) + 1), .int .i64 0, .int .i64 0, .int .i64 0, .int .i64 0] 41)).alloc (.cells #[.int .i64 0, .int .i64 1, .int .i64 ((kk : Int) + 1), .slice (some ⟨wr.heap.size, 0, none⟩) 1 1, .slice none 0 0] 31) = y := ⟨_, rfl⟩
        rw [hwa] at HBq HBc HRa HXa ⊢
        obtain ⟨gc, hgc⟩ : ∃ y, wr.heap.size + 1 = y := ⟨_, rfl⟩
        rw [hgc] at HBc HRa HGc ⊢
        obtain ⟨g2, hg2⟩ : ∃ y, wr.heap.size = y := ⟨_, rfl⟩
        rw [hg2] at HBc HBq ⊢
        clear hwa hgc hg2 HR HX
        have HB1 := Lib.hid (HBq.out.drew)
        have HC1 := Lib.hid (HBc.out.drew)
        have HR1 := Lib.hid (show Rv w ib (aX (1 + (p : Int)) vw on n bs) gc wa.drew from HRa.out.below ⟨rfl, rfl, rfl, Nat.le_refl _, fun _ _ => rfl⟩)
        have HX1 := Lib.hid (HXa.out.drew)
        clear HBq HBc HRa HXa
        obtain ⟨b0, hb0⟩ := bool_some (bs := bs) (k := kk + 1) (by rw [HLn.out.1]; omega)
        have HB0 := Lib.hid hb0
        have HLb := Lib.hid (show (bs.set (kk + 1) true).length = 18 ∧ (bs.set (kk + 1) true)[17]? = some false from ⟨by rw [List.length_set]; exact HLn.out.1, by rw [List.getElem?_set_ne (by omega)]; exact HLn.out.2⟩)
        cases b0 with
        | true =>
          have HAt := Lib.hid (show (aX (1 + (p : Int)) vw on n bs).L[kk]? = some (aA n (kk + 1)) from by show (mkL _ _ _)[kk]? = _; rw [mkL_at hk16, if_pos hb0])
          have HSet := Lib.hid (show bs.set (kk + 1) true = bs from set_back hb0)
          have HA1 := Lib.hid (r_adopt_no HR1.out.ri HAt.out 0 (ins := 0) (Or.inl rfl) none 0 0 none 0 0)
          have HA2 := Lib.hid (fun (w3 : World) (hb3 : Below wa.drew.heap.size wa.drew w3) => r_adopt_no (HR1.out.below hb3).ri HAt.out 0 (ins := 1) (Or.inl rfl) (some ⟨g2, 0, none⟩) 1 1 none 0 0)
          have hix1 : (0 : Int) ≤ (kk : Int) + 1 := by omega
          have hix2 : (kk : Int) + 1 < 18 := by omega
          have hq1 := ad_cells HC1.out (bool_cell18 HX1.out hb0)
          clear hb0
          refine wp_region_held_drew (S := fun w' => w'.cell? ⟨gc, 0, none⟩ = some (.int .i64 0) ∧ w'.cell? ⟨gc, 1, none⟩ = some (.int .i64 1) ∧ w'.cell? ⟨gc, 2, none⟩ = some (.int .i64 ((kk : Int) + 1)) ∧ w'.cell? ⟨gc, 3, none⟩ = some (.slice (some ⟨g2, 0, none⟩) 1 1) ∧ w'.cell? ⟨gc, 4, none⟩ = some (.slice none 0 0) ∧ w'.cell? ⟨gb, kk + 1, none⟩ = some (.bool true)) (by kernel_rfl) (hq1) (fun hHeld => ?_)
          refine wpAnyH_take (i := 0) (v := ?_) rfl (by kernel_rfl) (by kernel_rfl) (by kernel_rfl) (fun _ _ _ h => h) (Or.inl ⟨by rfl, ?_⟩) (by assumption) ?_
          rotate_left
          · (intro w hSw; (try dsimp only at hSw); first | (go_simp; done) | (go_simp; with_reducible rfl))
          try simp only [Act.put, List.getElem_toArray, List.getElem_cons_zero, List.getElem_cons_succ, List.setIfInBounds_toArray, List.set_cons_zero, List.set_cons_succ]
          refine wpAnyH_take (i := 1) (v := ?_) rfl (by kernel_rfl) (by kernel_rfl) (by kernel_rfl) (fun _ _ _ h => h) (Or.inl ⟨by rfl, ?_⟩) (by assumption) ?_
          rotate_left
          · (intro w hSw; (try dsimp only at hSw); first | (go_simp; done) | (go_simp; with_reducible rfl))
          try simp only [Act.put, List.getElem_toArray, List.getElem_cons_zero, List.getElem_cons_succ, List.setIfInBounds_toArray, List.set_cons_zero, List.set_cons_succ]
          refine wpAnyH_take (i := 2) (v := ?_) rfl (by kernel_rfl) (by kernel_rfl) (by kernel_rfl) (fun _ _ _ h => h) (Or.inl ⟨by rfl, ?_⟩) (by assumption) ?_
          rotate_left
          · (intro w hSw; (try dsimp only at hSw); first | (go_simp; done) | (go_simp; with_reducible rfl))
          try simp only [Act.put, List.getElem_toArray, List.getElem_cons_zero, List.getElem_cons_succ, List.setIfInBounds_toArray, List.set_cons_zero, List.set_cons_succ]
          refine wpAnyH_ready (rs := [3]) (by kernel_rfl) (by simp) ?_
          refine AllReadyH.cons rfl (fun K hK => ?_) AllReadyH.nil
          go_simp
          go_at_call 13
          with_reducible refine HA1.out.mono ?_
          rintro e w3 ⟨rfl, hb3⟩
          refine hK.out _ _ (ad_cells (HC1.out.below hb3 HC1.out.lt) (bool_cell18 (HX1.out.below hb3 HX1.out.lt) HB0.out)) (fun hHeld => ?_)
          clear hK K
          try simp only [Act.put, List.getElem_toArray, List.getElem_cons_zero, List.getElem_cons_succ, List.setIfInBounds_toArray, List.set_cons_zero, List.set_cons_succ]
          refine wpAnyH_take (i := 4) (v := ?_) rfl (by kernel_rfl) (by kernel_rfl) (by kernel_rfl) (fun _ _ _ h => h) (Or.inl ⟨by rfl, ?_⟩) (by assumption) ?_
          rotate_left
          · (intro w hSw; (try dsimp only at hSw); first | (go_simp; done) | (go_simp; with_reducible rfl))
          try simp only [Act.put, List.getElem_toArray, List.getElem_cons_zero, List.getElem_cons_succ, List.setIfInBounds_toArray, List.set_cons_zero, List.set_cons_succ]
          refine wpAnyH_take (i := 5) (v := ?_) rfl (by kernel_rfl) (by kernel_rfl) (by kernel_rfl) (fun _ _ _ h => h) (Or.inl ⟨by rfl, ?_⟩) (by assumption) ?_
          rotate_left
          · (intro w hSw; (try dsimp only at hSw); first | (go_simp; done) | (go_simp; with_reducible rfl))
          try simp only [Act.put, List.getElem_toArray, List.getElem_cons_zero, List.getElem_cons_succ, List.setIfInBounds_toArray, List.set_cons_zero, List.set_cons_succ]
          refine wpAnyH_take (i := 6) (v := ?_) rfl (by kernel_rfl) (by kernel_rfl) (by kernel_rfl) (fun _ _ _ h => h) (Or.inl ⟨by rfl, ?_⟩) (by assumption) ?_
          rotate_left
          · (intro w hSw; (try dsimp only at hSw); first | (go_simp; done) | (go_simp; with_reducible rfl))
          try simp only [Act.put, List.getElem_toArray, List.getElem_cons_zero, List.getElem_cons_succ, List.setIfInBounds_toArray, List.set_cons_zero, List.set_cons_succ]
          refine wpAnyH_take (i := 8) (v := ?_) rfl (by kernel_rfl) (by kernel_rfl) (by kernel_rfl) (fun _ _ _ h => h) (Or.inl ⟨by rfl, ?_⟩) (by assumption) ?_
          rotate_left
          · (intro w hSw; (try dsimp only at hSw); first | (go_simp; done) | (go_simp; with_reducible rfl))
          try simp only [Act.put, List.getElem_toArray, List.getElem_cons_zero, List.getElem_cons_succ, List.setIfInBounds_toArray, List.set_cons_zero, List.set_cons_succ]
          refine wpAnyH_take (i := 9) (v := ?_) rfl (by kernel_rfl) (by kernel_rfl) (by kernel_rfl) (fun _ _ _ h => h) (Or.inl ⟨by rfl, ?_⟩) (by assumption) ?_
          rotate_left
          · (intro w hSw; (try dsimp only at hSw); first | (go_simp; done) | (go_simp; with_reducible rfl))
          try simp only [Act.put, List.getElem_toArray, List.getElem_cons_zero, List.getElem_cons_succ, List.setIfInBounds_toArray, List.set_cons_zero, List.set_cons_succ]
          refine wpAnyH_take (i := 10) (v := ?_) rfl (by kernel_rfl) (by kernel_rfl) (by kernel_rfl) (fun _ _ _ h => h) (Or.inl ⟨by rfl, ?_⟩) (by assumption) ?_
          rotate_left
          · (intro w hSw; (try dsimp only at hSw); first | (go_simp; done) | (go_simp; with_reducible rfl))
          try simp only [Act.put, List.getElem_toArray, List.getElem_cons_zero, List.getElem_cons_succ, List.setIfInBounds_toArray, List.set_cons_zero, List.set_cons_succ]
          refine wpAnyH_ready (rs := [7]) (by kernel_rfl) (by simp) ?_
          refine AllReadyH.cons rfl (fun K hK => ?_) AllReadyH.nil
          go_simp
          go_at_call 13
          with_reducible refine (HA2.out _ hb3).mono ?_
          rintro e w4 ⟨rfl, hb4⟩
          refine hK.out _ _ (ad_cells ((HC1.out.below hb3 HC1.out.lt).below hb4 (HC1.out.below hb3 HC1.out.lt).lt) (bool_cell18 ((HX1.out.below hb3 HX1.out.lt).below hb4 (HX1.out.below hb3 HX1.out.lt).lt) HB0.out)) (fun hHeld => ?_)
          clear hK K
          try simp only [Act.put, List.getElem_toArray, List.getElem_cons_zero, List.getElem_cons_succ, List.setIfInBounds_toArray, List.set_cons_zero, List.set_cons_succ]
          refine wpAnyH_take (i := 11) (v := ?_) rfl (by kernel_rfl) (by kernel_rfl) (by kernel_rfl) (fun _ _ _ h => h) (Or.inl ⟨by rfl, ?_⟩) (by assumption) ?_
          rotate_left
          · (intro w hSw; (try dsimp only at hSw); first | (go_simp; done) | (go_simp; with_reducible rfl))
          try simp only [Act.put, List.getElem_toArray, List.getElem_cons_zero, List.getElem_cons_succ, List.setIfInBounds_toArray, List.set_cons_zero, List.set_cons_succ]
          refine wpAnyH_take (i := 12) (v := ?_) rfl (by kernel_rfl) (by kernel_rfl) (by kernel_rfl) (fun _ _ _ h => h) (Or.inl ⟨by rfl, ?_⟩) (by assumption) ?_
          rotate_left
          · (intro w hSw; (try dsimp only at hSw); first | (go_simp; done) | (go_simp; with_reducible rfl))
          try simp only [Act.put, List.getElem_toArray, List.getElem_cons_zero, List.getElem_cons_succ, List.setIfInBounds_toArray, List.set_cons_zero, List.set_cons_succ]
          refine wpAnyH_done (by kernel_rfl) ?_ _
          have hb5 := hb3.trans (hb4.mono hb3.size)
          have HR4 := Lib.hid (show Rv w ib (aX (1 + (p : Int)) vw on n (bs.set (kk + 1) true)) gc w4 from by rw [HSet.out]; exact HR1.out.below hb5)
          have HC4 := Lib.hid (HC1.out.below hb5 HC1.out.lt)
          have HB4 := Lib.hid (HB1.out.below hb5 HB1.out.lt)
          have HX4 := Lib.hid (HX1.out.below hb5 HX1.out.lt)
          have hne : gc ≠ gb := HC4.out.ne_ HX4.out (by decide)
          have hne2 : gb ≠ gc := fun e => hne e.symm
          obtain ⟨k0, k1, k2, k3, k4, f0, f1, f2, f3, f4⟩ := blk_cells5 HC4.out
          have hxf := HX4.out.frozen (kk + 1)
          have hxc : w4.cell? ⟨gb, kk + 1, none⟩ = (boolCells bs)[kk + 1]? := HX4.out.cell (kk + 1)
          rw [boolCells_get HB0.out] at hxc
          have HX5 := Lib.hid (show Blk ((w4.setCell ⟨gb, kk + 1, none⟩ (.bool true)).setCell ⟨gc, 3, none⟩ (.slice none 0 0)) gb 37 (boolCells (bs.set (kk + 1) true)) from by
            rw [← boolCells_set]
            exact (HX4.out.set_ (kk + 1) _).far hne2 _)
          have HR5 := Lib.hid (show Ri w ib (aX (1 + (p : Int)) vw on n (bs.set (kk + 1) true)) ((w4.setCell ⟨gb, kk + 1, none⟩ (.bool true)).setCell ⟨gc, 3, none⟩ (.slice none 0 0)) from
            ((HR4.out.other HX4.out HG.out (.bool true) (by decide) (by decide) (by decide) (by decide) (by decide) (by decide)).stored (HC4.out.far hne _) HGc.out (.slice none 0 0)).ri)
          have HA5 := Lib.hid (show (aX (1 + (p : Int)) vw on n (bs.set (kk + 1) true)).L[kk]? = some (aA n (kk + 1)) from by show (mkL _ _ _)[kk]? = _; rw [mkL_at hk16, if_pos (List.getElem?_set_self (show kk + 1 < bs.length by rw [HLn.out.1]; omega))])
          have HA3 := Lib.hid (r_adopt_no HR5.out HA5.out 0 (ins := 1) (Or.inl rfl) none 0 0 none 0 0)
          go_wp2_with fail
          refine HA3.out.mono ?_
          rintro e w6 ⟨rfl, hb6⟩
          have HR6 := Lib.hid (HR5.out.below hb6)
          have HX6 := Lib.hid (HX5.out.below hb6 HX5.out.lt)
          clear hb6 HA3 HR5 HX5 HR4 HC4 HB4 HX4 hne hne2 k0 k1 k2 k3 k4 f0 f1 f2 f3 f4 hxf hxc
          go_wp2_with fail
          go_loopw [14] (fun y wr => ∃ t : Nat, y = .int .i64 t ∧ t ≤ 16 ∧ Hid (∀ i, i < t → (bs.set (kk + 1) true)[i + 1]? = some true) ∧ wr = w6) (fun y _ => 16 - (intOf y).toNat)
          case atStart => exact ⟨0, rfl, Nat.zero_le _, (fun i hi => absurd hi (Nat.not_lt_zero i)), rfl⟩
          case round =>
            obtain ⟨t, rfl, ht, HM, rfl⟩ := hrel
            obtain ⟨b, hb⟩ := bool_some (bs := bs.set (kk + 1) true) (k := t + 1) (by rw [HLb.out.1]; omega)
            have hcn := bool_cell18 HX6.out hb
            have hnz : (t : Int) < 17 := by omega
            cases b with
            | true =>
              have hn16 : t < 16 := by
                rcases Nat.lt_or_ge t 16 with h | h
                · exact h
                · have : t = 16 := by omega
                  subst this
                  have := HLb.out.2
                  rw [hb] at this
                  cases this
              have HMn := Lib.hid (show ∀ i, i < t + 1 → (bs.set (kk + 1) true)[i + 1]? = some true from fun i hi => by
                rcases Nat.lt_or_ge i t with h | h
                · exact HM.out i h
                · have : i = t := by omega
                  subst this
                  exact hb)
              clear hb
              go_wp2_with fail
              go_roundw
              case rel => exact ⟨t + 1, by go_num, by omega, HMn, by trivial⟩
              case measure => simp [intOf]; omega
            | false =>
              have hd : doneL (aX (1 + (p : Int)) vw on n (bs.set (kk + 1) true)).L = t := mkL_done (fun _ => rfl) (fun _ => rfl) HM.out ht hb
              have HCm := Lib.hid (r_committed HR6.out HA5.out (c := ⟨0, 1, (kk : Int) + 1, [aR (kk + 1)], []⟩) rfl)
              simp only [List.length_cons, List.length_nil] at HCm
              have HDd := Lib.hid hd
              clear hb hd
              go_wp2_with fail
              refine HCm.out.mono ?_
              rintro e w7 ⟨A9, d9, B9, e9, rfl, hn9, hb7⟩
              have hal7 : Below w7.heap.size w7 (w7.alloc (.cells #[.int .i64 0, .int .i64 1, .int .i64 ((kk : Int) + 1), .slice A9 1 d9, .slice B9 0 e9] 31)) := (Below.refl _ _).alloc (Nat.le_refl _) _
              have HR7 := Lib.hid ((HR6.out.below hb7).below hal7)
              have HX7 := Lib.hid ((HX6.out.below hb7 HX6.out.lt).alloc (.cells #[.int .i64 0, .int .i64 1, .int .i64 ((kk : Int) + 1), .slice A9 1 d9, .slice B9 0 e9] 31))
              have HN7 := Lib.hid (below_own hn9.bt hal7 (Nat.le_refl _))
              have HDn := Lib.hid (r_done HR7.out)
              rw [HDd.out] at HDn
              have hal8 : Below (w7.alloc (.cells #[.int .i64 0, .int .i64 1, .int .i64 ((kk : Int) + 1), .slice A9 1 d9, .slice B9 0 e9] 31)).heap.size (w7.alloc (.cells #[.int .i64 0, .int .i64 1, .int .i64 ((kk : Int) + 1), .slice A9 1 d9, .slice B9 0 e9] 31)) ((w7.alloc (.cells #[.int .i64 0, .int .i64 1, .int .i64 ((kk : Int) + 1), .slice A9 1 d9, .slice B9 0 e9] 31)).alloc (.cells #[.int .i64 0, .int .i64 ((kk : Int) + 1), .int .i64 0, .int .i64 0, .int .i64 0, .int .i64 0] 41)) := (Below.refl _ _).alloc (Nat.le_refl _) _
              have HR8 := Lib.hid (HR7.out.below hal8)
              have HX8 := Lib.hid (HX7.out.alloc (.cells #[.int .i64 0, .int .i64 ((kk : Int) + 1), .int .i64 0, .int .i64 0, .int .i64 0, .int .i64 0] 41))
              have HN8 := Lib.hid (below_own HN7.out hal8 (Nat.le_refl _))
              have HB8 := Lib.hid (show Blk ((w7.alloc (.cells #[.int .i64 0, .int .i64 1, .int .i64 ((kk : Int) + 1), .slice A9 1 d9, .slice B9 0 e9] 31)).alloc (.cells #[.int .i64 0, .int .i64 ((kk : Int) + 1), .int .i64 0, .int .i64 0, .int .i64 0, .int .i64 0] 41)) (w7.heap.size + 1) 41 (rqCells (aR (kk + 1))) from Blk.new1 w7 _ _ _)
              have HSm := Lib.hid (same_reqs_is (A := A9) (A' := some ⟨w7.heap.size + 1, 0, none⟩) (c := d9) (c' := 1) (la := 1) (lb := 1) (zs := [aR (kk + 1)]) (ys := [aR (kk + 1)]) (r := true) rfl rfl (by omega) (sameL_self' _) ((w7.alloc (.cells #[.int .i64 0, .int .i64 1, .int .i64 ((kk : Int) + 1), .slice A9 1 d9, .slice B9 0 e9] 31)).alloc (.cells #[.int .i64 0, .int .i64 ((kk : Int) + 1), .int .i64 0, .int .i64 0, .int .i64 0, .int .i64 0] 41)) (has_rows HN8.out) (has_one (aR (kk + 1)) HB8.out))
              have HU := Lib.hid (fun m => r_used (HR8.out.drewN m) (aR (kk + 1)))
              simp only [aX_used (1 + (p : Int)) vw on n (bs := bs.set (kk + 1) true) hk16 (List.getElem?_set_self (show kk + 1 < bs.length by rw [HLn.out.1]; omega))] at HU
              clear hn9 hb7 hal7 hal8 HCm
              go_wp2_with fail
              refine HDn.out.mono ?_
              rintro e wd ⟨rfl, rfl⟩
              go_wp2_with fail
              refine HSm.out.mono ?_
              rintro e w9 ⟨rfl, m, rfl⟩
              go_wp2_with fail
              refine (HU.out m).mono ?_
              rintro e w10 ⟨rfl, hb10⟩
              have HR10 := Lib.hid ((HR8.out.drewN m).below hb10)
              have HX10 := Lib.hid ((HX8.out.drewN m).below hb10 (HX8.out.drewN m).lt)
              clear hb10
              go_wp2_with fail
              go_roundw
              case rel => exact ⟨i + 1, bs.set (kk + 1) true, by go_num, by omega, by omega, HLb, HR10, HX10⟩
              case measure => simp [intOf]; omega
        | false =>
          have HAt := Lib.hid (show (aX (1 + (p : Int)) vw on n bs).L[kk]? = some (aB n (kk + 1)) from by show (mkL _ _ _)[kk]? = _; rw [mkL_at hk16, if_neg (by rw [hb0]; simp)])
          have HSet := Lib.hid (show (aX (1 + (p : Int)) vw on n bs).put kk ⟨Sx.new n, none, some ⟨0, 1, (kk : Int) + 1, [aR (kk + 1)], []⟩⟩ = aX (1 + (p : Int)) vw on n (bs.set (kk + 1) true) from by
            unfold Ix.put aX
            rw [← mkL_set hk16 HLn.out.1]
            rfl)
          have HA1 := Lib.hid (r_adopt_no HR1.out.ri HAt.out 0 (ins := 0) (Or.inr (by show (0 : Int) ≠ 1; decide)) none 0 0 none 0 0)
          have HA2 := Lib.hid (fun (w3 : World) (hb3 : Below wa.drew.heap.size wa.drew w3) => rv_adopt (HR1.out.below hb3) (Nat.lt_of_lt_of_le HC1.out.lt hb3.size) HAt.out rfl 0 (b := [aR (kk + 1)]) (v := []) (A := some ⟨g2, 0, none⟩) (B := none) (n := 1) (m := 0) (B0 := w3.heap.size) (has_one (aR (kk + 1)) (HB1.out.below hb3 HB1.out.lt)) (Has.nil _ _ _) rfl rfl (Nat.le_refl _) (by omega) (by omega) 1 0)
          simp only [show (aX (1 + (p : Int)) vw on n bs).num = (1 : Int) from rfl] at HA2
          have hix1 : (0 : Int) ≤ (kk : Int) + 1 := by omega
          have hix2 : (kk : Int) + 1 < 18 := by omega
          have hq1 := ad_cells HC1.out (bool_cell18 HX1.out hb0)
          clear hb0
          refine wp_region_held_drew (S := fun w' => w'.cell? ⟨gc, 0, none⟩ = some (.int .i64 0) ∧ w'.cell? ⟨gc, 1, none⟩ = some (.int .i64 1) ∧ w'.cell? ⟨gc, 2, none⟩ = some (.int .i64 ((kk : Int) + 1)) ∧ w'.cell? ⟨gc, 3, none⟩ = some (.slice (some ⟨g2, 0, none⟩) 1 1) ∧ w'.cell? ⟨gc, 4, none⟩ = some (.slice none 0 0) ∧ w'.cell? ⟨gb, kk + 1, none⟩ = some (.bool false)) (by kernel_rfl) (hq1) (fun hHeld => ?_)
          refine wpAnyH_take (i := 0) (v := ?_) rfl (by kernel_rfl) (by kernel_rfl) (by kernel_rfl) (fun _ _ _ h => h) (Or.inl ⟨by rfl, ?_⟩) (by assumption) ?_
          rotate_left
          · (intro w hSw; (try dsimp only at hSw); first | (go_simp; done) | (go_simp; with_reducible rfl))
          try simp only [Act.put, List.getElem_toArray, List.getElem_cons_zero, List.getElem_cons_succ, List.setIfInBounds_toArray, List.set_cons_zero, List.set_cons_succ]
          refine wpAnyH_take (i := 1) (v := ?_) rfl (by kernel_rfl) (by kernel_rfl) (by kernel_rfl) (fun _ _ _ h => h) (Or.inl ⟨by rfl, ?_⟩) (by assumption) ?_
          rotate_left
          · (intro w hSw; (try dsimp only at hSw); first | (go_simp; done) | (go_simp; with_reducible rfl))
          try simp only [Act.put, List.getElem_toArray, List.getElem_cons_zero, List.getElem_cons_succ, List.setIfInBounds_toArray, List.set_cons_zero, List.set_cons_succ]
          refine wpAnyH_take (i := 2) (v := ?_) rfl (by kernel_rfl) (by kernel_rfl) (by kernel_rfl) (fun _ _ _ h => h) (Or.inl ⟨by rfl, ?_⟩) (by assumption) ?_
          rotate_left
          · (intro w hSw; (try dsimp only at hSw); first | (go_simp; done) | (go_simp; with_reducible rfl))
          try simp only [Act.put, List.getElem_toArray, List.getElem_cons_zero, List.getElem_cons_succ, List.setIfInBounds_toArray, List.set_cons_zero, List.set_cons_succ]
          refine wpAnyH_ready (rs := [3]) (by kernel_rfl) (by simp) ?_
          refine AllReadyH.cons rfl (fun K hK => ?_) AllReadyH.nil
          go_simp
          go_at_call 13
          with_reducible refine HA1.out.mono ?_
          rintro e w3 ⟨rfl, hb3⟩
          refine hK.out _ _ (ad_cells (HC1.out.below hb3 HC1.out.lt) (bool_cell18 (HX1.out.below hb3 HX1.out.lt) HB0.out)) (fun hHeld => ?_)
          clear hK K
          try simp only [Act.put, List.getElem_toArray, List.getElem_cons_zero, List.getElem_cons_succ, List.setIfInBounds_toArray, List.set_cons_zero, List.set_cons_succ]
          refine wpAnyH_take (i := 4) (v := ?_) rfl (by kernel_rfl) (by kernel_rfl) (by kernel_rfl) (fun _ _ _ h => h) (Or.inl ⟨by rfl, ?_⟩) (by assumption) ?_
          rotate_left
          · (intro w hSw; (try dsimp only at hSw); first | (go_simp; done) | (go_simp; with_reducible rfl))
          try simp only [Act.put, List.getElem_toArray, List.getElem_cons_zero, List.getElem_cons_succ, List.setIfInBounds_toArray, List.set_cons_zero, List.set_cons_succ]
          refine wpAnyH_take (i := 5) (v := ?_) rfl (by kernel_rfl) (by kernel_rfl) (by kernel_rfl) (fun _ _ _ h => h) (Or.inl ⟨by rfl, ?_⟩) (by assumption) ?_
          rotate_left
          · (intro w hSw; (try dsimp only at hSw); first | (go_simp; done) | (go_simp; with_reducible rfl))
          try simp only [Act.put, List.getElem_toArray, List.getElem_cons_zero, List.getElem_cons_succ, List.setIfInBounds_toArray, List.set_cons_zero, List.set_cons_succ]
          refine wpAnyH_take (i := 6) (v := ?_) rfl (by kernel_rfl) (by kernel_rfl) (by kernel_rfl) (fun _ _ _ h => h) (Or.inl ⟨by rfl, ?_⟩) (by assumption) ?_
          rotate_left
          · (intro w hSw; (try dsimp only at hSw); first | (go_simp; done) | (go_simp; with_reducible rfl))
          try simp only [Act.put, List.getElem_toArray, List.getElem_cons_zero, List.getElem_cons_succ, List.setIfInBounds_toArray, List.set_cons_zero, List.set_cons_succ]
          refine wpAnyH_take (i := 8) (v := ?_) rfl (by kernel_rfl) (by kernel_rfl) (by kernel_rfl) (fun _ _ _ h => h) (Or.inl ⟨by rfl, ?_⟩) (by assumption) ?_
          rotate_left
          · (intro w hSw; (try dsimp only at hSw); first | (go_simp; done) | (go_simp; with_reducible rfl))
          try simp only [Act.put, List.getElem_toArray, List.getElem_cons_zero, List.getElem_cons_succ, List.setIfInBounds_toArray, List.set_cons_zero, List.set_cons_succ]
          refine wpAnyH_take (i := 9) (v := ?_) rfl (by kernel_rfl) (by kernel_rfl) (by kernel_rfl) (fun _ _ _ h => h) (Or.inl ⟨by rfl, ?_⟩) (by assumption) ?_
          rotate_left
          · (intro w hSw; (try dsimp only at hSw); first | (go_simp; done) | (go_simp; with_reducible rfl))
          try simp only [Act.put, List.getElem_toArray, List.getElem_cons_zero, List.getElem_cons_succ, List.setIfInBounds_toArray, List.set_cons_zero, List.set_cons_succ]
          refine wpAnyH_take (i := 10) (v := ?_) rfl (by kernel_rfl) (by kernel_rfl) (by kernel_rfl) (fun _ _ _ h => h) (Or.inl ⟨by rfl, ?_⟩) (by assumption) ?_
          rotate_left
          · (intro w hSw; (try dsimp only at hSw); first | (go_simp; done) | (go_simp; with_reducible rfl))
          try simp only [Act.put, List.getElem_toArray, List.getElem_cons_zero, List.getElem_cons_succ, List.setIfInBounds_toArray, List.set_cons_zero, List.set_cons_succ]
          refine wpAnyH_ready (rs := [7]) (by kernel_rfl) (by simp) ?_
          refine AllReadyH.cons rfl (fun K hK => ?_) AllReadyH.nil
          go_simp
          go_at_call 13
          with_reducible refine (HA2.out _ hb3).mono ?_
          rintro e w4 ⟨rfl, hr4, hkp4⟩
          refine hK.out _ _ (ad_cells (hkp4.blk (HC1.out.below hb3 HC1.out.lt) (by decide) (by decide) (by decide)) (bool_cell18 (hkp4.blk (HX1.out.below hb3 HX1.out.lt) (by decide) (by decide) (by decide)) HB0.out)) (fun hHeld => ?_)
          clear hK K
          try simp only [Act.put, List.getElem_toArray, List.getElem_cons_zero, List.getElem_cons_succ, List.setIfInBounds_toArray, List.set_cons_zero, List.set_cons_succ]
          refine wpAnyH_take (i := 11) (v := ?_) rfl (by kernel_rfl) (by kernel_rfl) (by kernel_rfl) (fun _ _ _ h => h) (Or.inl ⟨by rfl, ?_⟩) (by assumption) ?_
          rotate_left
          · (intro w hSw; (try dsimp only at hSw); first | (go_simp; done) | (go_simp; with_reducible rfl))
          try simp only [Act.put, List.getElem_toArray, List.getElem_cons_zero, List.getElem_cons_succ, List.setIfInBounds_toArray, List.set_cons_zero, List.set_cons_succ]
          refine wpAnyH_take (i := 12) (v := ?_) rfl (by kernel_rfl) (by kernel_rfl) (by kernel_rfl) (fun _ _ _ h => h) (Or.inl ⟨by rfl, ?_⟩) (by assumption) ?_
          rotate_left
          · (intro w hSw; (try dsimp only at hSw); first | (go_simp; done) | (go_simp; with_reducible rfl))
          try simp only [Act.put, List.getElem_toArray, List.getElem_cons_zero, List.getElem_cons_succ, List.setIfInBounds_toArray, List.set_cons_zero, List.set_cons_succ]
          refine wpAnyH_done (by kernel_rfl) ?_ _
          have HR4 := Lib.hid (show Rv w ib (aX (1 + (p : Int)) vw on n (bs.set (kk + 1) true)) gc w4 from by rw [← HSet.out]; exact hr4)
          have HC4 := Lib.hid (hkp4.blk (HC1.out.below hb3 HC1.out.lt) (by decide) (by decide) (by decide))
          have HB4 := Lib.hid (hkp4.blk (HB1.out.below hb3 HB1.out.lt) (by decide) (by decide) (by decide))
          have HX4 := Lib.hid (hkp4.blk (HX1.out.below hb3 HX1.out.lt) (by decide) (by decide) (by decide))
          have hne : gc ≠ gb := HC4.out.ne_ HX4.out (by decide)
          have hne2 : gb ≠ gc := fun e => hne e.symm
          obtain ⟨k0, k1, k2, k3, k4, f0, f1, f2, f3, f4⟩ := blk_cells5 HC4.out
          have hxf := HX4.out.frozen (kk + 1)
          have hxc : w4.cell? ⟨gb, kk + 1, none⟩ = (boolCells bs)[kk + 1]? := HX4.out.cell (kk + 1)
          rw [boolCells_get HB0.out] at hxc
          have HX5 := Lib.hid (show Blk ((w4.setCell ⟨gb, kk + 1, none⟩ (.bool true)).setCell ⟨gc, 3, none⟩ (.slice none 0 0)) gb 37 (boolCells (bs.set (kk + 1) true)) from by
            rw [← boolCells_set]
            exact (HX4.out.set_ (kk + 1) _).far hne2 _)
          have HR5 := Lib.hid (show Ri w ib (aX (1 + (p : Int)) vw on n (bs.set (kk + 1) true)) ((w4.setCell ⟨gb, kk + 1, none⟩ (.bool true)).setCell ⟨gc, 3, none⟩ (.slice none 0 0)) from
            ((HR4.out.other HX4.out HG.out (.bool true) (by decide) (by decide) (by decide) (by decide) (by decide) (by decide)).stored (HC4.out.far hne _) HGc.out (.slice none 0 0)).ri)
          have HA5 := Lib.hid (show (aX (1 + (p : Int)) vw on n (bs.set (kk + 1) true)).L[kk]? = some (aA n (kk + 1)) from by show (mkL _ _ _)[kk]? = _; rw [mkL_at hk16, if_pos (List.getElem?_set_self (show kk + 1 < bs.length by rw [HLn.out.1]; omega))])
          have HA3 := Lib.hid (r_adopt_no HR5.out HA5.out 0 (ins := 1) (Or.inl rfl) none 0 0 none 0 0)
          go_wp2_with fail
          refine HA3.out.mono ?_
          rintro e w6 ⟨rfl, hb6⟩
          have HR6 := Lib.hid (HR5.out.below hb6)
          have HX6 := Lib.hid (HX5.out.below hb6 HX5.out.lt)
          clear hb6 HA3 HR5 HX5 HR4 HC4 HB4 HX4 hne hne2 k0 k1 k2 k3 k4 f0 f1 f2 f3 f4 hxf hxc
          go_wp2_with fail
          go_loopw [14] (fun y wr => ∃ t : Nat, y = .int .i64 t ∧ t ≤ 16 ∧ Hid (∀ i, i < t → (bs.set (kk + 1) true)[i + 1]? = some true) ∧ wr = w6) (fun y _ => 16 - (intOf y).toNat)
          case atStart => exact ⟨0, rfl, Nat.zero_le _, (fun i hi => absurd hi (Nat.not_lt_zero i)), rfl⟩
          case round =>
            obtain ⟨t, rfl, ht, HM, rfl⟩ := hrel
            obtain ⟨b, hb⟩ := bool_some (bs := bs.set (kk + 1) true) (k := t + 1) (by rw [HLb.out.1]; omega)
            have hcn := bool_cell18 HX6.out hb
            have hnz : (t : Int) < 17 := by omega
            cases b with
            | true =>
              have hn16 : t < 16 := by
                rcases Nat.lt_or_ge t 16 with h | h
                · exact h
                · have : t = 16 := by omega
                  subst this
                  have := HLb.out.2
                  rw [hb] at this
                  cases this
              have HMn := Lib.hid (show ∀ i, i < t + 1 → (bs.set (kk + 1) true)[i + 1]? = some true from fun i hi => by
                rcases Nat.lt_or_ge i t with h | h
                · exact HM.out i h
                · have : i = t := by omega
                  subst this
                  exact hb)
              clear hb
              go_wp2_with fail
              go_roundw
              case rel => exact ⟨t + 1, by go_num, by omega, HMn, by trivial⟩
              case measure => simp [intOf]; omega
            | false =>
              have hd : doneL (aX (1 + (p : Int)) vw on n (bs.set (kk + 1) true)).L = t := mkL_done (fun _ => rfl) (fun _ => rfl) HM.out ht hb
              have HCm := Lib.hid (r_committed HR6.out HA5.out (c := ⟨0, 1, (kk : Int) + 1, [aR (kk + 1)], []⟩) rfl)
              simp only [List.length_cons, List.length_nil] at HCm
              have HDd := Lib.hid hd
              clear hb hd
              go_wp2_with fail
              refine HCm.out.mono ?_
              rintro e w7 ⟨A9, d9, B9, e9, rfl, hn9, hb7⟩
              have hal7 : Below w7.heap.size w7 (w7.alloc (.cells #[.int .i64 0, .int .i64 1, .int .i64 ((kk : Int) + 1), .slice A9 1 d9, .slice B9 0 e9] 31)) := (Below.refl _ _).alloc (Nat.le_refl _) _
              have HR7 := Lib.hid ((HR6.out.below hb7).below hal7)
              have HX7 := Lib.hid ((HX6.out.below hb7 HX6.out.lt).alloc (.cells #[.int .i64 0, .int .i64 1, .int .i64 ((kk : Int) + 1), .slice A9 1 d9, .slice B9 0 e9] 31))
              have HN7 := Lib.hid (below_own hn9.bt hal7 (Nat.le_refl _))
              have HDn := Lib.hid (r_done HR7.out)
              rw [HDd.out] at HDn
              have hal8 : Below (w7.alloc (.cells #[.int .i64 0, .int .i64 1, .int .i64 ((kk : Int) + 1), .slice A9 1 d9, .slice B9 0 e9] 31)).heap.size (w7.alloc (.cells #[.int .i64 0, .int .i64 1, .int .i64 ((kk : Int) + 1), .slice A9 1 d9, .slice B9 0 e9] 31)) ((w7.alloc (.cells #[.int .i64 0, .int .i64 1, .int .i64 ((kk : Int) + 1), .slice A9 1 d9, .slice B9 0 e9] 31)).alloc (.cells #[.int .i64 0, .int .i64 ((kk : Int) + 1), .int .i64 0, .int .i64 0, .int .i64 0, .int .i64 0] 41)) := (Below.refl _ _).alloc (Nat.le_refl _) _
              have HR8 := Lib.hid (HR7.out.below hal8)
              have HX8 := Lib.hid (HX7.out.alloc (.cells #[.int .i64 0, .int .i64 ((kk : Int) + 1), .int .i64 0, .int .i64 0, .int .i64 0, .int .i64 0] 41))
              have HN8 := Lib.hid (below_own HN7.out hal8 (Nat.le_refl _))
              have HB8 := Lib.hid (show Blk ((w7.alloc (.cells #[.int .i64 0, .int .i64 1, .int .i64 ((kk : Int) + 1), .slice A9 1 d9, .slice B9 0 e9] 31)).alloc (.cells #[.int .i64 0, .int .i64 ((kk : Int) + 1), .int .i64 0, .int .i64 0, .int .i64 0, .int .i64 0] 41)) (w7.heap.size + 1) 41 (rqCells (aR (kk + 1))) from Blk.new1 w7 _ _ _)
              have HSm := Lib.hid (same_reqs_is (A := A9) (A' := some ⟨w7.heap.size + 1, 0, none⟩) (c := d9) (c' := 1) (la := 1) (lb := 1) (zs := [aR (kk + 1)]) (ys := [aR (kk + 1)]) (r := true) rfl rfl (by omega) (sameL_self' _) ((w7.alloc (.cells #[.int .i64 0, .int .i64 1, .int .i64 ((kk : Int) + 1), .slice A9 1 d9, .slice B9 0 e9] 31)).alloc (.cells #[.int .i64 0, .int .i64 ((kk : Int) + 1), .int .i64 0, .int .i64 0, .int .i64 0, .int .i64 0] 41)) (has_rows HN8.out) (has_one (aR (kk + 1)) HB8.out))
              have HU := Lib.hid (fun m => r_used (HR8.out.drewN m) (aR (kk + 1)))
              simp only [aX_used (1 + (p : Int)) vw on n (bs := bs.set (kk + 1) true) hk16 (List.getElem?_set_self (show kk + 1 < bs.length by rw [HLn.out.1]; omega))] at HU
              clear hn9 hb7 hal7 hal8 HCm
              go_wp2_with fail
              refine HDn.out.mono ?_
              rintro e wd ⟨rfl, rfl⟩
              go_wp2_with fail
              refine HSm.out.mono ?_
              rintro e w9 ⟨rfl, m, rfl⟩
              go_wp2_with fail
              refine (HU.out m).mono ?_
              rintro e w10 ⟨rfl, hb10⟩
              have HR10 := Lib.hid ((HR8.out.drewN m).below hb10)
              have HX10 := Lib.hid ((HX8.out.drewN m).below hb10 (HX8.out.drewN m).lt)
              clear hb10
              go_wp2_with fail
              go_roundw
              case rel => exact ⟨i + 1, bs.set (kk + 1) true, by go_num, by omega, by omega, HLb, HR10, HX10⟩
              case measure => simp [intOf]; omega
      · by_cases h1 : i < m0
        · have g1 : (i : Int) < (m0 : Int) := by omega
          have g2 : ¬ (i : Int) < 60 := by omega
          clear hlt h1
          go_wp2_with fail
          refine (wakes15_any _).mono ?_
          rintro e w4 ⟨rfl, hb4⟩
          go_wp2_with fail
          go_ret
          exact ⟨rfl, HR.out.low.trans (hb4.mono HR.out.low.size)⟩
        · have g1 : ¬ (i : Int) < (m0 : Int) := by omega
          clear hlt h1
          go_wp2_with fail
          refine (wakes15_any _).mono ?_
          rintro e w4 ⟨rfl, hb4⟩
          go_wp2_with fail
          go_ret
          exact ⟨rfl, HR.out.low.trans (hb4.mono HR.out.low.size)⟩
  · obtain rfl : v = 0 := by omega
    have HRx := Lib.hid (show ∃ vw on, Ri w ib (aX (1 + (p : Int)) vw on n no18) w1 from ⟨0, true, HR0.out⟩)
    clear HR0 hv0
    obtain ⟨w2, hw2⟩ : ∃ y, w1 = y := ⟨_, rfl⟩
    rw [hw2] at HRx ⊢
    clear hw2
    go_wp2_with fail
    obtain ⟨vw, on, hR⟩ := HRx.out
    have HX := Lib.hid (show Blk (w2.alloc (.cells (boolCells no18) 37)) w2.heap.size 37 (boolCells no18) from Blk.new w2 _ _)
    have HR := Lib.hid (hR.below (wz := w2.alloc (.cells (boolCells no18) 37)) ((Below.refl _ _).alloc (Nat.le_refl _) _))
    have HG := Lib.hid (show w.heap.size ≤ w2.heap.size from hR.low.size)
    obtain ⟨gb, hgb⟩ : ∃ y, w2.heap.size = y := ⟨_, rfl⟩
    rw [hgb] at HX HG ⊢
    clear hR hgb HRx
    go_loopw [11] (fun y wr => ∃ (i : Nat) (bs : List Bool), y = .int .i64 i ∧ i ≤ m0 ∧ i ≤ 60 ∧ Hid (bs.length = 18 ∧ bs[17]? = some false) ∧ Hid (Ri w ib (aX (1 + (p : Int)) vw on n bs) wr) ∧ Hid (Blk wr gb 37 (boolCells bs))) (fun y _ => m0 - (intOf y).toNat)
    case atStart => exact ⟨0, no18, rfl, Nat.zero_le _, Nat.zero_le _, ⟨rfl, rfl⟩, HR, HX⟩
    case round =>
      clear HR HX
      obtain ⟨i, bs, rfl, hi, hi60, HLn, HR, HX⟩ := hrel
      by_cases hlt : i < m0 ∧ i < 60
      · obtain ⟨hlt1, hlt2⟩ := hlt
        have hlti : (i : Int) < (m0 : Int) := by omega
        have hlti2 : (i : Int) < 60 := by omega
        obtain ⟨ad, z1, rfl, hab, hc1, hd1, hzm1⟩ := (HL.out.has.below HR.out.low (Nat.le_refl _)).int (show i < zs.length by rw [HN.out]; exact hlt1)
        obtain ⟨y1, y2⟩ := wf_i64 (HL.out.fits z1 hzm1)
        have HW1 := Lib.hid (fun (w : World) => within_any z1 16 (by omega) (by omega) y1 y2 w)
        obtain ⟨kk, hk⟩ : ∃ k : Nat, z1 % 16 = k := ⟨(z1 % 16).toNat, by omega⟩
        have hkk : (kk : Int) < 16 := by omega
        rw [hk] at HW1
        have hk16 : kk < 16 := by omega
        clear hk y1 y2 hzm1 hd1 hab
        go_wp2_with fail
        refine (HW1.out _).mono ?_
        rintro e wq ⟨rfl, rfl⟩
        clear hc1
        go_wp2_with fail
        rw [Int.add_comm 1 (kk : Int)]
        have HBq := Lib.hid (show Blk ((wr.alloc (.cells #[.int .i64 0, .int .i64 ((kk : Int) + 1), .int .i64 0, .int .i64 0, .int .i64 0, .int .i64 0] 41)).alloc (.cells #[.int .i64 0, .int .i64 1, .int .i64 ((kk : Int) + 1), .slice (some ⟨wr.heap.size, 0, none⟩) 1 1, .slice none 0 0] 31)) wr.heap.size 41 (rqCells (aR (kk + 1))) from (Blk.new wr _ _).alloc _)
        have HBc := Lib.hid (show Blk ((wr.alloc (.cells #[.int .i64 0, .int .i64 ((kk : Int) + 1), .int .i64 0, .int .i64 0, .int .i64 0, .int .i64 0] 41)).alloc (.cells #[.int .i64 0, .int .i64 1, .int .i64 ((kk : Int) + 1), .slice (some ⟨wr.heap.size, 0, none⟩) 1 1, .slice none 0 0] 31)) (wr.heap.size + 1) 31 #[.int .i64 0, .int .i64 1, .int .i64 ((kk : Int) + 1), .slice (some ⟨wr.heap.size, 0, none⟩) 1 1, .slice none 0 0] from Blk.new1 wr _ _ _)
        have HRa := Lib.hid (show Rv w ib (aX (1 + (p : Int)) vw on n bs) (wr.heap.size + 1) ((wr.alloc (.cells #[.int .i64 0, .int .i64 ((kk : Int) + 1), .int .i64 0, .int .i64 0, .int .i64 0, .int .i64 0] 41)).alloc (.cells #[.int .i64 0, .int .i64 1, .int .i64 ((kk : Int) + 1), .slice (some ⟨wr.heap.size, 0, none⟩) 1 1, .slice none 0 0] 31)) from HR.out.fresh (Nat.le_succ _) (((Below.refl _ wr).alloc (Nat.le_refl _) _).alloc (by simp) _))
        have HXa := Lib.hid (show Blk ((wr.alloc (.cells #[.int .i64 0, .int .i64 ((kk : Int) + 1), .int .i64 0, .int .i64 0, .int .i64 0, .int .i64 0] 41)).alloc (.cells #[.int .i64 0, .int .i64 1, .int .i64 ((kk : Int) + 1), .slice (some ⟨wr.heap.size, 0, none⟩) 1 1, .slice none 0 0] 31)) gb 37 (boolCells bs) from (HX.out.alloc _).alloc _)
        have HGc := Lib.hid (show w.heap.size ≤ wr.heap.size + 1 from Nat.le_succ_of_le HR.out.low.size)
        obtain ⟨wa, hwa⟩ : ∃ y, (wr.alloc (.cells #[.int .i64 0, .int .i64 ((kk : Int) + 1), .int .i64 0, .int .i64 0, .int .i64 0, .int .i64 0] 41)).alloc (.cells #[.int .i64 0, .int .i64 1, .int .i64 ((kk : Int) + 1), .slice (some ⟨wr.heap.size, 0, none⟩) 1 1, .slice none 0 0] 31) = y := ⟨_, rfl⟩
        rw [hwa] at HBq HBc HRa HXa ⊢
        obtain ⟨gc, hgc⟩ : ∃ y, wr.heap.size + 1 = y := ⟨_, rfl⟩
        rw [hgc] at HBc HRa HGc ⊢
        obtain ⟨g2, hg2⟩ : ∃ y, wr.heap.size = y := ⟨_, rfl⟩
        rw [hg2] at HBc HBq ⊢
        clear hwa hgc hg2 HR HX
        have HB1 := Lib.hid (HBq.out.drew)
        have HC1 := Lib.hid (HBc.out.drew)
        have HR1 := Lib.hid (show Rv w ib (aX (1 + (p : Int)) vw on n bs) gc wa.drew from HRa.out.below ⟨rfl, rfl, rfl, Nat.le_refl _, fun _ _ => rfl⟩)
        have HX1 := Lib.hid (HXa.out.drew)
        clear HBq HBc HRa HXa
        obtain ⟨b0, hb0⟩ := bool_some (bs := bs) (k := kk + 1) (by rw [HLn.out.1]; omega)
        have HB0 := Lib.hid hb0
        have HLb := Lib.hid (show (bs.set (kk + 1) true).length = 18 ∧ (bs.set (kk + 1) true)[17]? = some false from ⟨by rw [List.length_set]; exact HLn.out.1, by rw [List.getElem?_set_ne (by omega)]; exact HLn.out.2⟩)
        cases b0 with
        | true =>
          have HAt := Lib.hid (show (aX (1 + (p : Int)) vw on n bs).L[kk]? = some (aA n (kk + 1)) from by show (mkL _ _ _)[kk]? = _; rw [mkL_at hk16, if_pos hb0])
          have HSet := Lib.hid (show bs.set (kk + 1) true = bs from set_back hb0)
          have HA1 := Lib.hid (r_adopt_no HR1.out.ri HAt.out 0 (ins := 0) (Or.inl rfl) none 0 0 none 0 0)
          have HA2 := Lib.hid (fun (w3 : World) (hb3 : Below wa.drew.heap.size wa.drew w3) => r_adopt_no (HR1.out.below hb3).ri HAt.out 0 (ins := 1) (Or.inl rfl) (some ⟨g2, 0, none⟩) 1 1 none 0 0)
          have hix1 : (0 : Int) ≤ (kk : Int) + 1 := by omega
          have hix2 : (kk : Int) + 1 < 18 := by omega
          have hq1 := ad_cells HC1.out (bool_cell18 HX1.out hb0)
          clear hb0
          refine wp_region_held_drew (S := fun w' => w'.cell? ⟨gc, 0, none⟩ = some (.int .i64 0) ∧ w'.cell? ⟨gc, 1, none⟩ = some (.int .i64 1) ∧ w'.cell? ⟨gc, 2, none⟩ = some (.int .i64 ((kk : Int) + 1)) ∧ w'.cell? ⟨gc, 3, none⟩ = some (.slice (some ⟨g2, 0, none⟩) 1 1) ∧ w'.cell? ⟨gc, 4, none⟩ = some (.slice none 0 0) ∧ w'.cell? ⟨gb, kk + 1, none⟩ = some (.bool true)) (by kernel_rfl) (hq1) (fun hHeld => ?_)
          refine wpAnyH_take (i := 0) (v := ?_) rfl (by kernel_rfl) (by kernel_rfl) (by kernel_rfl) (fun _ _ _ h => h) (Or.inl ⟨by rfl, ?_⟩) (by assumption) ?_
          rotate_left
          · (intro w hSw; (try dsimp only at hSw); first | (go_simp; done) | (go_simp; with_reducible rfl))
          try simp only [Act.put, List.getElem_toArray, List.getElem_cons_zero, List.getElem_cons_succ, List.setIfInBounds_toArray, List.set_cons_zero, List.set_cons_succ]
          refine wpAnyH_take (i := 1) (v := ?_) rfl (by kernel_rfl) (by kernel_rfl) (by kernel_rfl) (fun _ _ _ h => h) (Or.inl ⟨by rfl, ?_⟩) (by assumption) ?_
          rotate_left
          · (intro w hSw; (try dsimp only at hSw); first | (go_simp; done) | (go_simp; with_reducible rfl))
          try simp only [Act.put, List.getElem_toArray, List.getElem_cons_zero, List.getElem_cons_succ, List.setIfInBounds_toArray, List.set_cons_zero, List.set_cons_succ]
          refine wpAnyH_take (i := 2) (v := ?_) rfl (by kernel_rfl) (by kernel_rfl) (by kernel_rfl) (fun _ _ _ h => h) (Or.inl ⟨by rfl, ?_⟩) (by assumption) ?_
          rotate_left
          · (intro w hSw; (try dsimp only at hSw); first | (go_simp; done) | (go_simp; with_reducible rfl))
          try simp only [Act.put, List.getElem_toArray, List.getElem_cons_zero, List.getElem_cons_succ, List.setIfInBounds_toArray, List.set_cons_zero, List.set_cons_succ]
          refine wpAnyH_ready (rs := [3]) (by kernel_rfl) (by simp) ?_
          refine AllReadyH.cons rfl (fun K hK => ?_) AllReadyH.nil
          go_simp
          go_at_call 13
          with_reducible refine HA1.out.mono ?_
          rintro e w3 ⟨rfl, hb3⟩
          refine hK.out _ _ (ad_cells (HC1.out.below hb3 HC1.out.lt) (bool_cell18 (HX1.out.below hb3 HX1.out.lt) HB0.out)) (fun hHeld => ?_)
          clear hK K
          try simp only [Act.put, List.getElem_toArray, List.getElem_cons_zero, List.getElem_cons_succ, List.setIfInBounds_toArray, List.set_cons_zero, List.set_cons_succ]
          refine wpAnyH_take (i := 4) (v := ?_) rfl (by kernel_rfl) (by kernel_rfl) (by kernel_rfl) (fun _ _ _ h => h) (Or.inl ⟨by rfl, ?_⟩) (by assumption) ?_
          rotate_left
          · (intro w hSw; (try dsimp only at hSw); first | (go_simp; done) | (go_simp; with_reducible rfl))
          try simp only [Act.put, List.getElem_toArray, List.getElem_cons_zero, List.getElem_cons_succ, List.setIfInBounds_toArray, List.set_cons_zero, List.set_cons_succ]
          refine wpAnyH_take (i := 5) (v := ?_) rfl (by kernel_rfl) (by kernel_rfl) (by kernel_rfl) (fun _ _ _ h => h) (Or.inl ⟨by rfl, ?_⟩) (by assumption) ?_
          rotate_left
          · (intro w hSw; (try dsimp only at hSw); first | (go_simp; done) | (go_simp; with_reducible rfl))
          try simp only [Act.put, List.getElem_toArray, List.getElem_cons_zero, List.getElem_cons_succ, List.setIfInBounds_toArray, List.set_cons_zero, List.set_cons_succ]
          refine wpAnyH_take (i := 6) (v := ?_) rfl (by kernel_rfl) (by kernel_rfl) (by kernel_rfl) (fun _ _ _ h => h) (Or.inl ⟨by rfl, ?_⟩) (by assumption) ?_
          rotate_left
          · (intro w hSw; (try dsimp only at hSw); first | (go_simp; done) | (go_simp; with_reducible rfl))
          try simp only [Act.put, List.getElem_toArray, List.getElem_cons_zero, List.getElem_cons_succ, List.setIfInBounds_toArray, List.set_cons_zero, List.set_cons_succ]
          refine wpAnyH_take (i := 8) (v := ?_) rfl (by kernel_rfl) (by kernel_rfl) (by kernel_rfl) (fun _ _ _ h => h) (Or.inl ⟨by rfl, ?_⟩) (by assumption) ?_
          rotate_left
          · (intro w hSw; (try dsimp only at hSw); first | (go_simp; done) | (go_simp; with_reducible rfl))
          try simp only [Act.put, List.getElem_toArray, List.getElem_cons_zero, List.getElem_cons_succ, List.setIfInBounds_toArray, List.set_cons_zero, List.set_cons_succ]
          refine wpAnyH_take (i := 9) (v := ?_) rfl (by kernel_rfl) (by kernel_rfl) (by kernel_rfl) (fun _ _ _ h => h) (Or.inl ⟨by rfl, ?_⟩) (by assumption) ?_
          rotate_left
          · (intro w hSw; (try dsimp only at hSw); first | (go_simp; done) | (go_simp; with_reducible rfl))
          try simp only [Act.put, List.getElem_toArray, List.getElem_cons_zero, List.getElem_cons_succ, List.setIfInBounds_toArray, List.set_cons_zero, List.set_cons_succ]
          refine wpAnyH_take (i := 10) (v := ?_) rfl (by kernel_rfl) (by kernel_rfl) (by kernel_rfl) (fun _ _ _ h => h) (Or.inl ⟨by rfl, ?_⟩) (by assumption) ?_
          rotate_left
          · (intro w hSw; (try dsimp only at hSw); first | (go_simp; done) | (go_simp; with_reducible rfl))
          try simp only [Act.put, List.getElem_toArray, List.getElem_cons_zero, List.getElem_cons_succ, List.setIfInBounds_toArray, List.set_cons_zero, List.set_cons_succ]
          refine wpAnyH_ready (rs := [7]) (by kernel_rfl) (by simp) ?_
          refine AllReadyH.cons rfl (fun K hK => ?_) AllReadyH.nil
          go_simp
          go_at_call 13
          with_reducible refine (HA2.out _ hb3).mono ?_
          rintro e w4 ⟨rfl, hb4⟩
          refine hK.out _ _ (ad_cells ((HC1.out.below hb3 HC1.out.lt).below hb4 (HC1.out.below hb3 HC1.out.lt).lt) (bool_cell18 ((HX1.out.below hb3 HX1.out.lt).below hb4 (HX1.out.below hb3 HX1.out.lt).lt) HB0.out)) (fun hHeld => ?_)
          clear hK K
          try simp only [Act.put, List.getElem_toArray, List.getElem_cons_zero, List.getElem_cons_succ, List.setIfInBounds_toArray, List.set_cons_zero, List.set_cons_succ]
          refine wpAnyH_take (i := 11) (v := ?_) rfl (by kernel_rfl) (by kernel_rfl) (by kernel_rfl) (fun _ _ _ h => h) (Or.inl ⟨by rfl, ?_⟩) (by assumption) ?_
          rotate_left
          · (intro w hSw; (try dsimp only at hSw); first | (go_simp; done) | (go_simp; with_reducible rfl))
          try simp only [Act.put, List.getElem_toArray, List.getElem_cons_zero, List.getElem_cons_succ, List.setIfInBounds_toArray, List.set_cons_zero, List.set_cons_succ]
          refine wpAnyH_take (i := 12) (v := ?_) rfl (by kernel_rfl) (by kernel_rfl) (by kernel_rfl) (fun _ _ _ h => h) (Or.inl ⟨by rfl, ?_⟩) (by assumption) ?_
          rotate_left
          · (intro w hSw; (try dsimp only at hSw); first | (go_simp; done) | (go_simp; with_reducible rfl))
          try simp only [Act.put, List.getElem_toArray, List.getElem_cons_zero, List.getElem_cons_succ, List.setIfInBounds_toArray, List.set_cons_zero, List.set_cons_succ]
          refine wpAnyH_done (by kernel_rfl) ?_ _
          have hb5 := hb3.trans (hb4.mono hb3.size)
          have HR4 := Lib.hid (show Rv w ib (aX (1 + (p : Int)) vw on n (bs.set (kk + 1) true)) gc w4 from by rw [HSet.out]; exact HR1.out.below hb5)
          have HC4 := Lib.hid (HC1.out.below hb5 HC1.out.lt)
          have HB4 := Lib.hid (HB1.out.below hb5 HB1.out.lt)
          have HX4 := Lib.hid (HX1.out.below hb5 HX1.out.lt)
          have hne : gc ≠ gb := HC4.out.ne_ HX4.out (by decide)
          have hne2 : gb ≠ gc := fun e => hne e.symm
          obtain ⟨k0, k1, k2, k3, k4, f0, f1, f2, f3, f4⟩ := blk_cells5 HC4.out
          have hxf := HX4.out.frozen (kk + 1)
          have hxc : w4.cell? ⟨gb, kk + 1, none⟩ = (boolCells bs)[kk + 1]? := HX4.out.cell (kk + 1)
          rw [boolCells_get HB0.out] at hxc
          have HX5 := Lib.hid (show Blk ((w4.setCell ⟨gb, kk + 1, none⟩ (.bool true)).setCell ⟨gc, 3, none⟩ (.slice none 0 0)) gb 37 (boolCells (bs.set (kk + 1) true)) from by
            rw [← boolCells_set]
            exact (HX4.out.set_ (kk + 1) _).far hne2 _)
          have HR5 := Lib.hid (show Ri w ib (aX (1 + (p : Int)) vw on n (bs.set (kk + 1) true)) ((w4.setCell ⟨gb, kk + 1, none⟩ (.bool true)).setCell ⟨gc, 3, none⟩ (.slice none 0 0)) from
            ((HR4.out.other HX4.out HG.out (.bool true) (by decide) (by decide) (by decide) (by decide) (by decide) (by decide)).stored (HC4.out.far hne _) HGc.out (.slice none 0 0)).ri)
          have HA5 := Lib.hid (show (aX (1 + (p : Int)) vw on n (bs.set (kk + 1) true)).L[kk]? = some (aA n (kk + 1)) from by show (mkL _ _ _)[kk]? = _; rw [mkL_at hk16, if_pos (List.getElem?_set_self (show kk + 1 < bs.length by rw [HLn.out.1]; omega))])
          have HA3 := Lib.hid (r_adopt_no HR5.out HA5.out 0 (ins := 1) (Or.inl rfl) none 0 0 none 0 0)
          go_wp2_with fail
          refine HA3.out.mono ?_
          rintro e w6 ⟨rfl, hb6⟩
          have HR6 := Lib.hid (HR5.out.below hb6)
          have HX6 := Lib.hid (HX5.out.below hb6 HX5.out.lt)
          clear hb6 HA3 HR5 HX5 HR4 HC4 HB4 HX4 hne hne2 k0 k1 k2 k3 k4 f0 f1 f2 f3 f4 hxf hxc
          go_wp2_with fail
          go_loopw [14] (fun y wr => ∃ t : Nat, y = .int .i64 t ∧ t ≤ 16 ∧ Hid (∀ i, i < t → (bs.set (kk + 1) true)[i + 1]? = some true) ∧ wr = w6) (fun y _ => 16 - (intOf y).toNat)
          case atStart => exact ⟨0, rfl, Nat.zero_le _, (fun i hi => absurd hi (Nat.not_lt_zero i)), rfl⟩
          case round =>
            obtain ⟨t, rfl, ht, HM, rfl⟩ := hrel
            obtain ⟨b, hb⟩ := bool_some (bs := bs.set (kk + 1) true) (k := t + 1) (by rw [HLb.out.1]; omega)
            have hcn := bool_cell18 HX6.out hb
            have hnz : (t : Int) < 17 := by omega
            cases b with
            | true =>
              have hn16 : t < 16 := by
                rcases Nat.lt_or_ge t 16 with h | h
                · exact h
                · have : t = 16 := by omega
                  subst this
                  have := HLb.out.2
                  rw [hb] at this
                  cases this
              have HMn := Lib.hid (show ∀ i, i < t + 1 → (bs.set (kk + 1) true)[i + 1]? = some true from fun i hi => by
                rcases Nat.lt_or_ge i t with h | h
                · exact HM.out i h
                · have : i = t := by omega
                  subst this
                  exact hb)
              clear hb
              go_wp2_with fail
              go_roundw
              case rel => exact ⟨t + 1, by go_num, by omega, HMn, by trivial⟩
              case measure => simp [intOf]; omega
            | false =>
              have hd : doneL (aX (1 + (p : Int)) vw on n (bs.set (kk + 1) true)).L = t := mkL_done (fun _ => rfl) (fun _ => rfl) HM.out ht hb
              have HCm := Lib.hid (r_committed HR6.out HA5.out (c := ⟨0, 1, (kk : Int) + 1, [aR (kk + 1)], []⟩) rfl)
              simp only [List.length_cons, List.length_nil] at HCm
              have HDd := Lib.hid hd
              clear hb hd
              go_wp2_with fail
              refine HCm.out.mono ?_
              rintro e w7 ⟨A9, d9, B9, e9, rfl, hn9, hb7⟩
              have hal7 : Below w7.heap.size w7 (w7.alloc (.cells #[.int .i64 0, .int .i64 1, .int .i64 ((kk : Int) + 1), .slice A9 1 d9, .slice B9 0 e9] 31)) := (Below.refl _ _).alloc (Nat.le_refl _) _
              have HR7 := Lib.hid ((HR6.out.below hb7).below hal7)
              have HX7 := Lib.hid ((HX6.out.below hb7 HX6.out.lt).alloc (.cells #[.int .i64 0, .int .i64 1, .int .i64 ((kk : Int) + 1), .slice A9 1 d9, .slice B9 0 e9] 31))
              have HN7 := Lib.hid (below_own hn9.bt hal7 (Nat.le_refl _))
              have HDn := Lib.hid (r_done HR7.out)
              rw [HDd.out] at HDn
              have hal8 : Below (w7.alloc (.cells #[.int .i64 0, .int .i64 1, .int .i64 ((kk : Int) + 1), .slice A9 1 d9, .slice B9 0 e9] 31)).heap.size (w7.alloc (.cells #[.int .i64 0, .int .i64 1, .int .i64 ((kk : Int) + 1), .slice A9 1 d9, .slice B9 0 e9] 31)) ((w7.alloc (.cells #[.int .i64 0, .int .i64 1, .int .i64 ((kk : Int) + 1), .slice A9 1 d9, .slice B9 0 e9] 31)).alloc (.cells #[.int .i64 0, .int .i64 ((kk : Int) + 1), .int .i64 0, .int .i64 0, .int .i64 0, .int .i64 0] 41)) := (Below.refl _ _).alloc (Nat.le_refl _) _
              have HR8 := Lib.hid (HR7.out.below hal8)
              have HX8 := Lib.hid (HX7.out.alloc (.cells #[.int .i64 0, .int .i64 ((kk : Int) + 1), .int .i64 0, .int .i64 0, .int .i64 0, .int .i64 0] 41))
              have HN8 := Lib.hid (below_own HN7.out hal8 (Nat.le_refl _))
              have HB8 := Lib.hid (show Blk ((w7.alloc (.cells #[.int .i64 0, .int .i64 1, .int .i64 ((kk : Int) + 1), .slice A9 1 d9, .slice B9 0 e9] 31)).alloc (.cells #[.int .i64 0, .int .i64 ((kk : Int) + 1), .int .i64 0, .int .i64 0, .int .i64 0, .int .i64 0] 41)) (w7.heap.size + 1) 41 (rqCells (aR (kk + 1))) from Blk.new1 w7 _ _ _)
              have HSm := Lib.hid (same_reqs_is (A := A9) (A' := some ⟨w7.heap.size + 1, 0, none⟩) (c := d9) (c' := 1) (la := 1) (lb := 1) (zs := [aR (kk + 1)]) (ys := [aR (kk + 1)]) (r := true) rfl rfl (by omega) (sameL_self' _) ((w7.alloc (.cells #[.int .i64 0, .int .i64 1, .int .i64 ((kk : Int) + 1), .slice A9 1 d9, .slice B9 0 e9] 31)).alloc (.cells #[.int .i64 0, .int .i64 ((kk : Int) + 1), .int .i64 0, .int .i64 0, .int .i64 0, .int .i64 0] 41)) (has_rows HN8.out) (has_one (aR (kk + 1)) HB8.out))
              have HU := Lib.hid (fun m => r_used (HR8.out.drewN m) (aR (kk + 1)))
              simp only [aX_used (1 + (p : Int)) vw on n (bs := bs.set (kk + 1) true) hk16 (List.getElem?_set_self (show kk + 1 < bs.length by rw [HLn.out.1]; omega))] at HU
              clear hn9 hb7 hal7 hal8 HCm
              go_wp2_with fail
              refine HDn.out.mono ?_
              rintro e wd ⟨rfl, rfl⟩
              go_wp2_with fail
              refine HSm.out.mono ?_
              rintro e w9 ⟨rfl, m, rfl⟩
              go_wp2_with fail
              refine (HU.out m).mono ?_
              rintro e w10 ⟨rfl, hb10⟩
              have HR10 := Lib.hid ((HR8.out.drewN m).below hb10)
              have HX10 := Lib.hid ((HX8.out.drewN m).below hb10 (HX8.out.drewN m).lt)
              clear hb10
              go_wp2_with fail
              go_roundw
              case rel => exact ⟨i + 1, bs.set (kk + 1) true, by go_num, by omega, by omega, HLb, HR10, HX10⟩
              case measure => simp [intOf]; omega
        | false =>
          have HAt := Lib.hid (show (aX (1 + (p : Int)) vw on n bs).L[kk]? = some (aB n (kk + 1)) from by show (mkL _ _ _)[kk]? = _; rw [mkL_at hk16, if_neg (by rw [hb0]; simp)])
          have HSet := Lib.hid (show (aX (1 + (p : Int)) vw on n bs).put kk ⟨Sx.new n, none, some ⟨0, 1, (kk : Int) + 1, [aR (kk + 1)], []⟩⟩ = aX (1 + (p : Int)) vw on n (bs.set (kk + 1) true) from by
            unfold Ix.put aX
            rw [← mkL_set hk16 HLn.out.1]
            rfl)
          have HA1 := Lib.hid (r_adopt_no HR1.out.ri HAt.out 0 (ins := 0) (Or.inr (by show (0 : Int) ≠ 1; decide)) none 0 0 none 0 0)
          have HA2 := Lib.hid (fun (w3 : World) (hb3 : Below wa.drew.heap.size wa.drew w3) => rv_adopt (HR1.out.below hb3) (Nat.lt_of_lt_of_le HC1.out.lt hb3.size) HAt.out rfl 0 (b := [aR (kk + 1)]) (v := []) (A := some ⟨g2, 0, none⟩) (B := none) (n := 1) (m := 0) (B0 := w3.heap.size) (has_one (aR (kk + 1)) (HB1.out.below hb3 HB1.out.lt)) (Has.nil _ _ _) rfl rfl (Nat.le_refl _) (by omega) (by omega) 1 0)
          simp only [show (aX (1 + (p : Int)) vw on n bs).num = (1 : Int) from rfl] at HA2
          have hix1 : (0 : Int) ≤ (kk : Int) + 1 := by omega
          have hix2 : (kk : Int) + 1 < 18 := by omega
          have hq1 := ad_cells HC1.out (bool_cell18 HX1.out hb0)
          clear hb0
          refine wp_region_held_drew (S := fun w' => w'.cell? ⟨gc, 0, none⟩ = some (.int .i64 0) ∧ w'.cell? ⟨gc, 1, none⟩ = some (.int .i64 1) ∧ w'.cell? ⟨gc, 2, none⟩ = some (.int .i64 ((kk : Int) + 1)) ∧ w'.cell? ⟨gc, 3, none⟩ = some (.slice (some ⟨g2, 0, none⟩) 1 1) ∧ w'.cell? ⟨gc, 4, none⟩ = some (.slice none 0 0) ∧ w'.cell? ⟨gb, kk + 1, none⟩ = some (.bool false)) (by kernel_rfl) (hq1) (fun hHeld => ?_)
          refine wpAnyH_take (i := 0) (v := ?_) rfl (by kernel_rfl) (by kernel_rfl) (by kernel_rfl) (fun _ _ _ h => h) (Or.inl ⟨by rfl, ?_⟩) (by assumption) ?_
          rotate_left
          · (intro w hSw; (try dsimp only at hSw); first | (go_simp; done) | (go_simp; with_reducible rfl))
          try simp only [Act.put, List.getElem_toArray, List.getElem_cons_zero, List.getElem_cons_succ, List.setIfInBounds_toArray, List.set_cons_zero, List.set_cons_succ]
          refine wpAnyH_take (i := 1) (v := ?_) rfl (by kernel_rfl) (by kernel_rfl) (by kernel_rfl) (fun _ _ _ h => h) (Or.inl ⟨by rfl, ?_⟩) (by assumption) ?_
          rotate_left
          · (intro w hSw; (try dsimp only at hSw); first | (go_simp; done) | (go_simp; with_reducible rfl))
          try simp only [Act.put, List.getElem_toArray, List.getElem_cons_zero, List.getElem_cons_succ, List.setIfInBounds_toArray, List.set_cons_zero, List.set_cons_succ]
          refine wpAnyH_take (i := 2) (v := ?_) rfl (by kernel_rfl) (by kernel_rfl) (by kernel_rfl) (fun _ _ _ h => h) (Or.inl ⟨by rfl, ?_⟩) (by assumption) ?_
          rotate_left
          · (intro w hSw; (try dsimp only at hSw); first | (go_simp; done) | (go_simp; with_reducible rfl))
          try simp only [Act.put, List.getElem_toArray, List.getElem_cons_zero, List.getElem_cons_succ, List.setIfInBounds_toArray, List.set_cons_zero, List.set_cons_succ]
          refine wpAnyH_ready (rs := [3]) (by kernel_rfl) (by simp) ?_
          refine AllReadyH.cons rfl (fun K hK => ?_) AllReadyH.nil
          go_simp
          go_at_call 13
          with_reducible refine HA1.out.mono ?_
          rintro e w3 ⟨rfl, hb3⟩
          refine hK.out _ _ (ad_cells (HC1.out.below hb3 HC1.out.lt) (bool_cell18 (HX1.out.below hb3 HX1.out.lt) HB0.out)) (fun hHeld => ?_)
          clear hK K
          try simp only [Act.put, List.getElem_toArray, List.getElem_cons_zero, List.getElem_cons_succ, List.setIfInBounds_toArray, List.set_cons_zero, List.set_cons_succ]
          refine wpAnyH_take (i := 4) (v := ?_) rfl (by kernel_rfl) (by kernel_rfl) (by kernel_rfl) (fun _ _ _ h => h) (Or.inl ⟨by rfl, ?_⟩) (by assumption) ?_
          rotate_left
          · (intro w hSw; (try dsimp only at hSw); first | (go_simp; done) | (go_simp; with_reducible rfl))
          try simp only [Act.put, List.getElem_toArray, List.getElem_cons_zero, List.getElem_cons_succ, List.setIfInBounds_toArray, List.set_cons_zero, List.set_cons_succ]
          refine wpAnyH_take (i := 5) (v := ?_) rfl (by kernel_rfl) (by kernel_rfl) (by kernel_rfl) (fun _ _ _ h => h) (Or.inl ⟨by rfl, ?_⟩) (by assumption) ?_
          rotate_left
          · (intro w hSw; (try dsimp only at hSw); first | (go_simp; done) | (go_simp; with_reducible rfl))
          try simp only [Act.put, List.getElem_toArray, List.getElem_cons_zero, List.getElem_cons_succ, List.setIfInBounds_toArray, List.set_cons_zero, List.set_cons_succ]
          refine wpAnyH_take (i := 6) (v := ?_) rfl (by kernel_rfl) (by kernel_rfl) (by kernel_rfl) (fun _ _ _ h => h) (Or.inl ⟨by rfl, ?_⟩) (by assumption) ?_
          rotate_left
          · (intro w hSw; (try dsimp only at hSw); first | (go_simp; done) | (go_simp; with_reducible rfl))
          try simp only [Act.put, List.getElem_toArray, List.getElem_cons_zero, List.getElem_cons_succ, List.setIfInBounds_toArray, List.set_cons_zero, List.set_cons_succ]
          refine wpAnyH_take (i := 8) (v := ?_) rfl (by kernel_rfl) (by kernel_rfl) (by kernel_rfl) (fun _ _ _ h => h) (Or.inl ⟨by rfl, ?_⟩) (by assumption) ?_
          rotate_left
          · (intro w hSw; (try dsimp only at hSw); first | (go_simp; done) | (go_simp; with_reducible rfl))
          try simp only [Act.put, List.getElem_toArray, List.getElem_cons_zero, List.getElem_cons_succ, List.setIfInBounds_toArray, List.set_cons_zero, List.set_cons_succ]
          refine wpAnyH_take (i := 9) (v := ?_) rfl (by kernel_rfl) (by kernel_rfl) (by kernel_rfl) (fun _ _ _ h => h) (Or.inl ⟨by rfl, ?_⟩) (by assumption) ?_
          rotate_left
          · (intro w hSw; (try dsimp only at hSw); first | (go_simp; done) | (go_simp; with_reducible rfl))
          try simp only [Act.put, List.getElem_toArray, List.getElem_cons_zero, List.getElem_cons_succ, List.setIfInBounds_toArray, List.set_cons_zero, List.set_cons_succ]
          refine wpAnyH_take (i := 10) (v := ?_) rfl (by kernel_rfl) (by kernel_rfl) (by kernel_rfl) (fun _ _ _ h => h) (Or.inl ⟨by rfl, ?_⟩) (by assumption) ?_
          rotate_left
          · (intro w hSw; (try dsimp only at hSw); first | (go_simp; done) | (go_simp; with_reducible rfl))
          try simp only [Act.put, List.getElem_toArray, List.getElem_cons_zero, List.getElem_cons_succ, List.setIfInBounds_toArray, List.set_cons_zero, List.set_cons_succ]
          refine wpAnyH_ready (rs := [7]) (by kernel_rfl) (by simp) ?_
          refine AllReadyH.cons rfl (fun K hK => ?_) AllReadyH.nil
          go_simp
          go_at_call 13
          with_reducible refine (HA2.out _ hb3).mono ?_
          rintro e w4 ⟨rfl, hr4, hkp4⟩
          refine hK.out _ _ (ad_cells (hkp4.blk (HC1.out.below hb3 HC1.out.lt) (by decide) (by decide) (by decide)) (bool_cell18 (hkp4.blk (HX1.out.below hb3 HX1.out.lt) (by decide) (by decide) (by decide)) HB0.out)) (fun hHeld => ?_)
          clear hK K
          try simp only [Act.put, List.getElem_toArray, List.getElem_cons_zero, List.getElem_cons_succ, List.setIfInBounds_toArray, List.set_cons_zero, List.set_cons_succ]
          refine wpAnyH_take (i := 11) (v := ?_) rfl (by kernel_rfl) (by kernel_rfl) (by kernel_rfl) (fun _ _ _ h => h) (Or.inl ⟨by rfl, ?_⟩) (by assumption) ?_
          rotate_left
          · (intro w hSw; (try dsimp only at hSw); first | (go_simp; done) | (go_simp; with_reducible rfl))
          try simp only [Act.put, List.getElem_toArray, List.getElem_cons_zero, List.getElem_cons_succ, List.setIfInBounds_toArray, List.set_cons_zero, List.set_cons_succ]
          refine wpAnyH_take (i := 12) (v := ?_) rfl (by kernel_rfl) (by kernel_rfl) (by kernel_rfl) (fun _ _ _ h => h) (Or.inl ⟨by rfl, ?_⟩) (by assumption) ?_
          rotate_left
          · (intro w hSw; (try dsimp only at hSw); first | (go_simp; done) | (go_simp; with_reducible rfl))
          try simp only [Act.put, List.getElem_toArray, List.getElem_cons_zero, List.getElem_cons_succ, List.setIfInBounds_toArray, List.set_cons_zero, List.set_cons_succ]
          refine wpAnyH_done (by kernel_rfl) ?_ _
          have HR4 := Lib.hid (show Rv w ib (aX (1 + (p : Int)) vw on n (bs.set (kk + 1) true)) gc w4 from by rw [← HSet.out]; exact hr4)
          have HC4 := Lib.hid (hkp4.blk (HC1.out.below hb3 HC1.out.lt) (by decide) (by decide) (by decide))
          have HB4 := Lib.hid (hkp4.blk (HB1.out.below hb3 HB1.out.lt) (by decide) (by decide) (by decide))
          have HX4 := Lib.hid (hkp4.blk (HX1.out.below hb3 HX1.out.lt) (by decide) (by decide) (by decide))
          have hne : gc ≠ gb := HC4.out.ne_ HX4.out (by decide)
          have hne2 : gb ≠ gc := fun e => hne e.symm
          obtain ⟨k0, k1, k2, k3, k4, f0, f1, f2, f3, f4⟩ := blk_cells5 HC4.out
          have hxf := HX4.out.frozen (kk + 1)
          have hxc : w4.cell? ⟨gb, kk + 1, none⟩ = (boolCells bs)[kk + 1]? := HX4.out.cell (kk + 1)
          rw [boolCells_get HB0.out] at hxc
          have HX5 := Lib.hid (show Blk ((w4.setCell ⟨gb, kk + 1, none⟩ (.bool true)).setCell ⟨gc, 3, none⟩ (.slice none 0 0)) gb 37 (boolCells (bs.set (kk + 1) true)) from by
            rw [← boolCells_set]
            exact (HX4.out.set_ (kk + 1) _).far hne2 _)
          have HR5 := Lib.hid (show Ri w ib (aX (1 + (p : Int)) vw on n (bs.set (kk + 1) true)) ((w4.setCell ⟨gb, kk + 1, none⟩ (.bool true)).setCell ⟨gc, 3, none⟩ (.slice none 0 0)) from
            ((HR4.out.other HX4.out HG.out (.bool true) (by decide) (by decide) (by decide) (by decide) (by decide) (by decide)).stored (HC4.out.far hne _) HGc.out (.slice none 0 0)).ri)
          have HA5 := Lib.hid (show (aX (1 + (p : Int)) vw on n (bs.set (kk + 1) true)).L[kk]? = some (aA n (kk + 1)) from by show (mkL _ _ _)[kk]? = _; rw [mkL_at hk16, if_pos (List.getElem?_set_self (show kk + 1 < bs.length by rw [HLn.out.1]; omega))])
          have HA3 := Lib.hid (r_adopt_no HR5.out HA5.out 0 (ins := 1) (Or.inl rfl) none 0 0 none 0 0)
          go_wp2_with fail
          refine HA3.out.mono ?_
          rintro e w6 ⟨rfl, hb6⟩
          have HR6 := Lib.hid (HR5.out.below hb6)
          have HX6 := Lib.hid (HX5.out.below hb6 HX5.out.lt)
          clear hb6 HA3 HR5 HX5 HR4 HC4 HB4 HX4 hne hne2 k0 k1 k2 k3 k4 f0 f1 f2 f3 f4 hxf hxc
          go_wp2_with fail
          go_loopw [14] (fun y wr => ∃ t : Nat, y = .int .i64 t ∧ t ≤ 16 ∧ Hid (∀ i, i < t → (bs.set (kk + 1) true)[i + 1]? = some true) ∧ wr = w6) (fun y _ => 16 - (intOf y).toNat)
          case atStart => exact ⟨0, rfl, Nat.zero_le _, (fun i hi => absurd hi (Nat.not_lt_zero i)), rfl⟩
          case round =>
            obtain ⟨t, rfl, ht, HM, rfl⟩ := hrel
            obtain ⟨b, hb⟩ := bool_some (bs := bs.set (kk + 1) true) (k := t + 1) (by rw [HLb.out.1]; omega)
            have hcn := bool_cell18 HX6.out hb
            have hnz : (t : Int) < 17 := by omega
            cases b with
            | true =>
              have hn16 : t < 16 := by
                rcases Nat.lt_or_ge t 16 with h | h
                · exact h
                · have : t = 16 := by omega
                  subst this
                  have := HLb.out.2
                  rw [hb] at this
                  cases this
              have HMn := Lib.hid (show ∀ i, i < t + 1 → (bs.set (kk + 1) true)[i + 1]? = some true from fun i hi => by
                rcases Nat.lt_or_ge i t with h | h
                · exact HM.out i h
                · have : i = t := by omega
                  subst this
                  exact hb)
              clear hb
              go_wp2_with fail
              go_roundw
              case rel => exact ⟨t + 1, by go_num, by omega, HMn, by trivial⟩
              case measure => simp [intOf]; omega
            | false =>
              have hd : doneL (aX (1 + (p : Int)) vw on n (bs.set (kk + 1) true)).L = t := mkL_done (fun _ => rfl) (fun _ => rfl) HM.out ht hb
              have HCm := Lib.hid (r_committed HR6.out HA5.out (c := ⟨0, 1, (kk : Int) + 1, [aR (kk + 1)], []⟩) rfl)
              simp only [List.length_cons, List.length_nil] at HCm
              have HDd := Lib.hid hd
              clear hb hd
              go_wp2_with fail
              refine HCm.out.mono ?_
              rintro e w7 ⟨A9, d9, B9, e9, rfl, hn9, hb7⟩
              have hal7 : Below w7.heap.size w7 (w7.alloc (.cells #[.int .i64 0, .int .i64 1, .int .i64 ((kk : Int) + 1), .slice A9 1 d9, .slice B9 0 e9] 31)) := (Below.refl _ _).alloc (Nat.le_refl _) _
              have HR7 := Lib.hid ((HR6.out.below hb7).below hal7)
              have HX7 := Lib.hid ((HX6.out.below hb7 HX6.out.lt).alloc (.cells #[.int .i64 0, .int .i64 1, .int .i64 ((kk : Int) + 1), .slice A9 1 d9, .slice B9 0 e9] 31))
              have HN7 := Lib.hid (below_own hn9.bt hal7 (Nat.le_refl _))
              have HDn := Lib.hid (r_done HR7.out)
              rw [HDd.out] at HDn
              have hal8 : Below (w7.alloc (.cells #[.int .i64 0, .int .i64 1, .int .i64 ((kk : Int) + 1), .slice A9 1 d9, .slice B9 0 e9] 31)).heap.size (w7.alloc (.cells #[.int .i64 0, .int .i64 1, .int .i64 ((kk : Int) + 1), .slice A9 1 d9, .slice B9 0 e9] 31)) ((w7.alloc (.cells #[.int .i64 0, .int .i64 1, .int .i64 ((kk : Int) + 1), .slice A9 1 d9, .slice B9 0 e9] 31)).alloc (.cells #[.int .i64 0, .int .i64 ((kk : Int) + 1), .int .i64 0, .int .i64 0, .int .i64 0, .int .i64 0] 41)) := (Below.refl _ _).alloc (Nat.le_refl _) _
              have HR8 := Lib.hid (HR7.out.below hal8)
              have HX8 := Lib.hid (HX7.out.alloc (.cells #[.int .i64 0, .int .i64 ((kk : Int) + 1), .int .i64 0, .int .i64 0, .int .i64 0, .int .i64 0] 41))
              have HN8 := Lib.hid (below_own HN7.out hal8 (Nat.le_refl _))
              have HB8 := Lib.hid (show Blk ((w7.alloc (.cells #[.int .i64 0, .int .i64 1, .int .i64 ((kk : Int) + 1), .slice A9 1 d9, .slice B9 0 e9] 31)).alloc (.cells #[.int .i64 0, .int .i64 ((kk : Int) + 1), .int .i64 0, .int .i64 0, .int .i64 0, .int .i64 0] 41)) (w7.heap.size + 1) 41 (rqCells (aR (kk + 1))) from Blk.new1 w7 _ _ _)
              have HSm := Lib.hid (same_reqs_is (A := A9) (A' := some ⟨w7.heap.size + 1, 0, none⟩) (c := d9) (c' := 1) (la := 1) (lb := 1) (zs := [aR (kk + 1)]) (ys := [aR (kk + 1)]) (r := true) rfl rfl (by omega) (sameL_self' _) ((w7.alloc (.cells #[.int .i64 0, .int .i64 1, .int .i64 ((kk : Int) + 1), .slice A9 1 d9, .slice B9 0 e9] 31)).alloc (.cells #[.int .i64 0, .int .i64 ((kk : Int) + 1), .int .i64 0, .int .i64 0, .int .i64 0, .int .i64 0] 41)) (has_rows HN8.out) (has_one (aR (kk + 1)) HB8.out))
              have HU := Lib.hid (fun m => r_used (HR8.out.drewN m) (aR (kk + 1)))
              simp only [aX_used (1 + (p : Int)) vw on n (bs := bs.set (kk + 1) true) hk16 (List.getElem?_set_self (show kk + 1 < bs.length by rw [HLn.out.1]; omega))] at HU
              clear hn9 hb7 hal7 hal8 HCm
              go_wp2_with fail
              refine HDn.out.mono ?_
              rintro e wd ⟨rfl, rfl⟩
              go_wp2_with fail
              refine HSm.out.mono ?_
              rintro e w9 ⟨rfl, m, rfl⟩
              go_wp2_with fail
              refine (HU.out m).mono ?_
              rintro e w10 ⟨rfl, hb10⟩
              have HR10 := Lib.hid ((HR8.out.drewN m).below hb10)
              have HX10 := Lib.hid ((HX8.out.drewN m).below hb10 (HX8.out.drewN m).lt)
              clear hb10
              go_wp2_with fail
              go_roundw
              case rel => exact ⟨i + 1, bs.set (kk + 1) true, by go_num, by omega, by omega, HLb, HR10, HX10⟩
              case measure => simp [intOf]; omega
      · by_cases h1 : i < m0
        · have g1 : (i : Int) < (m0 : Int) := by omega
          have g2 : ¬ (i : Int) < 60 := by omega
          clear hlt h1
          go_wp2_with fail
          refine (wakes15_any _).mono ?_
          rintro e w4 ⟨rfl, hb4⟩
          go_wp2_with fail
          go_ret
          exact ⟨rfl, HR.out.low.trans (hb4.mono HR.out.low.size)⟩
        · have g1 : ¬ (i : Int) < (m0 : Int) := by omega
          clear hlt h1
          go_wp2_with fail
          refine (wakes15_any _).mono ?_
          rintro e w4 ⟨rfl, hb4⟩
          go_wp2_with fail
          go_ret
          exact ⟨rfl, HR.out.low.trans (hb4.mono HR.out.low.size)⟩
end Go.Proofs.Ytpdmflhbmimhgaa
