/- The walk of SlotLowest: it returns true for any int, ints and int. -/
import Derived.Test.YthlmalangjgioaaSlotTell
namespace Go.Proofs.Ythlmalangjgioaa
open Go.RowKit
set_option linter.unusedSimpArgs false

def lr : Rq := ⟨0, 3, 0, 0, 0, 0⟩
def Lo4 (n : Nat) (bs : List Bool) : Sx := ⟨some [lr], tellM n bs 100 [lr], List.replicate n offV⟩
def Lo5 (n : Nat) (bs : List Bool) : Sx := ⟨some [lr], List.replicate n offV, tellM n bs 100 [lr]⟩
theorem lo4_new (n : Nat) : (Sx.new n).pre [lr] = Lo4 n noM := by
  unfold Lo4 noM
  rw [tellM_zero]; rfl
theorem lo5_new (n : Nat) : (Sx.new n).pre [lr] = Lo5 n noM := by
  unfold Lo5 noM
  rw [tellM_zero]; rfl
theorem lo4_v {n k : Nat} {bs : List Bool} {c : Bool} (h : k < n) (hb : bs[k]? = some c) : (Lo4 n bs).vote 4 (k : Int) (100 + (k : Int)) [lr] = (!c, Lo4 n (bs.set k true)) := by
  unfold Sx.vote Lo4
  rw [if_pos rfl]
  simp only
  rw [tellM_any h hb]
theorem lo5_v {n k : Nat} {bs : List Bool} {c : Bool} (h : k < n) (hb : bs[k]? = some c) : (Lo5 n bs).vote 5 (k : Int) (100 + (k : Int)) [lr] = (!c, Lo5 n (bs.set k true)) := by
  unfold Sx.vote Lo5
  rw [if_neg (by omega), if_pos rfl]
  simp only
  rw [tellM_any h hb]
theorem lo4_p (n q : Nat) (bs : List Bool) : (Lo4 n bs).prep q = decS (tellM n bs 100 [lr]) [lr] q := rfl
theorem lo5_p {n q : Nat} (bs : List Bool) (h : 0 < q) : (Lo5 n bs).prep q = none := decS_off h
theorem lo5_c0 {n q : Nat} {bs : List Bool} (h0 : 0 < q) (h : decS (tellM n bs 100 [lr]) [lr] q = none) : (Lo5 n bs).com q = none := by
  show comS q (tellM n bs 100 [lr]) (tellM n bs 100 [lr]) = none
  refine comS_none fun x hx => ?_
  obtain ⟨k, hk⟩ := List.getElem?_of_mem hx
  have hkn : k < n := by have := (List.getElem?_eq_some_iff.1 hk).1; rwa [tellM_len] at this
  rw [tellM_at _ _ _ hkn] at hk
  injection hk with hk
  by_cases e : bs[k]? = some true
  · rw [if_pos e] at hk
    rw [← hk]; exact h
  · rw [if_neg e] at hk
    rw [← hk]
    cases hd : decS (tellM n bs 100 [lr]) offV.bt q with
    | none => rfl
    | some v =>
      exfalso
      refine absurd (decS_is hd).1 ?_
      rw [show forL 0 (tellM n bs 100 [lr]) offV.bt = [] from ?_]
      · simp; omega
      · exact tell_other (by decide) _ _ _ _
theorem lo5_c1 {n q : Nat} {bs : List Bool} {l : List Vt} (h0 : 0 < q) (hn : n < 2 * q) (h : decS (tellM n bs 100 [lr]) [lr] q = some l) : (Lo5 n bs).com q = some ([lr], l) := by
  show comS q (tellM n bs 100 [lr]) (tellM n bs 100 [lr]) = _
  exact comS_of h0 (by rw [tellM_len]; exact hn) h
/-- The law's state. -/
structure Lo (w : World) (S : List Bool → Sx) (sb gb hb : Nat) (f : Int) (bs : List Bool) (v1 v2 : Value) (wr : World) : Prop where
  rs : Rs w sb v1 v2 f (S bs) wr
  box : Blk wr gb 32 #[.int .i64 0, .int .i64 3, .int .i64 0, .int .i64 0, .int .i64 0, .int .i64 0]
  arr : Blk wr hb 63 (boolCells bs)
  len : bs.length = 13
  lb : w.heap.size ≤ hb
section
variable {w wr wz : World} {S : List Bool → Sx} {sb gb hb : Nat} {f : Int} {bs : List Bool} {v1 v2 : Value}
theorem Lo.below (h : Lo w S sb gb hb f bs v1 v2 wr) (hb' : Below wr.heap.size wr wz) : Lo w S sb gb hb f bs v1 v2 wz :=
  ⟨h.rs.below hb', h.box.below hb' h.box.lt, h.arr.below hb' h.arr.lt, h.len, h.lb⟩
theorem Lo.arr2 (h : Lo w S sb gb hb f bs v1 v2 wr) {s' : Sx} (hp : SlPost wr (fun _ => True) sb v1 v2 f s' wz) : Blk wz hb 63 (boolCells bs) := hp.far h.rs.sl h.arr (by decide) (by decide)
theorem Lo.step (h : Lo w S sb gb hb f bs v1 v2 wr) {k : Nat} (hp : SlPost wr (fun _ => True) sb v1 v2 f (S (bs.set k true)) wz) : ∃ u1 u2, Lo w S sb gb hb f (bs.set k true) u1 u2 (wz.setCell ⟨hb, k, none⟩ (.bool true)) := by
  have h1 := hp.far h.rs.sl h.box (by decide) (by decide)
  have h2 := h.arr2 hp
  obtain ⟨u1, u2, h3⟩ := h.rs.post hp
  have hne : gb ≠ hb := h1.ne_ h2 (by decide)
  have hoff := h3.sl.off h2 (by decide) (by decide)
  have ht : Turn (fun j => j = hb) wz (wz.setCell ⟨hb, k, none⟩ (.bool true)) := (Turn.refl _ _).set_ ⟨hb, k, none⟩ _ rfl
  refine ⟨u1, u2, ⟨h3.sl.kept ht (fun j hj e => hoff (e ▸ hj)) (fun u b hu g hg e => ?_), h3.zn, h3.low.trans (ht.below h3.low.size (fun j hj e => by have := h.lb; omega))⟩, h1.far hne _, ?_, by rw [List.length_set]; exact h.len, h.lb⟩
  · subst e
    exact hu.off h2 (by decide) hg
  · rw [← boolCells_set]
    exact h2.set_ k _
theorem Lo.grown (h : Lo w S sb gb hb f bs v1 v2 wr) {n : Nat} {v : Value} {xs : List Value} (ho : wr.ownsRow w.heap.size 44 2 v n xs) (hg : wr.grownBy wz v.ownBlock) : Lo w S sb gb hb f bs v1 v2 wz :=
  ⟨h.rs.grown ho (Nat.le_refl _) hg (by decide) (by decide) (by decide), h.box.grown hg (fun e => own_blk_ne ho h.box (by decide) e.symm), h.arr.grown hg (fun e => own_blk_ne ho h.arr (by decide) e.symm), h.len, h.lb⟩
end
set_option maxRecDepth 100000 in
set_option maxHeartbeats 4000000 in
theorem slotLowest_walk (a0 : Int) (A : Option Addr) (c : Nat) (zs : List Int) (a2 : Int) (w : World) (w0 : (Lit.int .i64 a0).wf = true) (w1 : IsList .i64 w A zs c) (w2 : (Lit.int .i64 a2).wf = true) :
    Calls Try.prog 7 #[.int .i64 a0, .slice A zs.length c, .int .i64 a2] w fun e w' => e = .returned (.bool true) ∧ Below w.heap.size w w' := by
  obtain ⟨i0, hi0, hx0, hx1, hx2⟩ := info_parts info_vote
  obtain ⟨b0, b1⟩ := wf_i64 w0
  obtain ⟨b2, b3⟩ := wf_i64 w2
  have HW4 := Lib.hid (fun w => within_any a0 4 (by omega) (by omega) b0 b1 w)
  have HW2 := Lib.hid (fun w => within_any a2 2 (by omega) (by omega) b2 b3 w)
  have hf1 : 0 ≤ a0 % 4 ∧ a0 % 4 < 4 := ⟨Int.emod_nonneg _ (by omega), Int.emod_lt_of_pos _ (by omega)⟩
  have hk1 : 0 ≤ a2 % 2 ∧ a2 % 2 < 2 := ⟨Int.emod_nonneg _ (by omega), Int.emod_lt_of_pos _ (by omega)⟩
  obtain ⟨p, hp⟩ : ∃ p : Nat, a0 % 4 = p := ⟨(a0 % 4).toNat, by omega⟩
  rw [hp] at HW4 hf1
  obtain ⟨q, hq⟩ : ∃ q : Nat, (q : Int) = 2 * (1 + (p : Int)) + 1 := ⟨2 * p + 3, by omega⟩
  obtain ⟨n, hn⟩ : ∃ n : Nat, (n : Int) = 3 * (1 + (p : Int)) + 1 := ⟨3 * p + 4, by omega⟩
  have HQn := Lib.hid (show q ≤ n ∧ n < 2 * q ∧ 0 < q ∧ 0 < n from ⟨by omega, by omega, by omega, by omega⟩)
  have hn13 : n ≤ 13 := by omega
  have hq9 : 0 < q ∧ q ≤ 9 := by omega
  have HNo := Lib.hid (fun (w : World) => (show Calls Try.prog 13 #[.int .i64 (1 + p)] w fun e w' => e = .returned (.int .i64 (n : Int)) ∧ w = w' from by
    have := rnodes_any (1 + p) w
    rwa [nodesS_in (by omega) (by omega), ← hn] at this))
  have HQ := Lib.hid (fun (w : World) => (show Calls Try.prog 19 #[.int .i64 (1 + p)] w fun e w' => e = .returned (.int .i64 (q : Int)) ∧ w = w' from by
    have := rquorum_any (1 + p) w
    rwa [quorumS_in (by omega) (by omega), ← hq] at this))
  have HNew := Lib.hid (fun w => rs_new (f := 1 + (p : Int)) (n := n) (by omega) (by omega) hn w w (Below.refl _ _))
  have HQq := Lib.hid hq
  have hk : a2 % 2 = 0 ∨ a2 % 2 = 1 := by omega
  have HL := Lib.hid w1
  obtain ⟨m0, hm0⟩ : ∃ m, zs.length = m := ⟨_, rfl⟩
  have HN := Lib.hid hm0
  have HMx := Lib.hid (show m0 ≤ maxLen by rw [← hm0]; exact Nat.le_trans HL.out.le HL.out.most)
  simp only [hm0]
  clear w0 w1 w2 b0 b1 b2 b3 hp hn hq hm0
  go_enter Try.func7, Try.ntmps7
  go_wp2_with fail
  refine (HW4.out _).mono ?_
  rintro e wa ⟨rfl, rfl⟩
  go_wp2_with fail
  refine (HNew.out _).mono ?_
  rintro e w1 ⟨sb, v1, v2, rfl, hR, -, -⟩
  have HX := Lib.hid (Blk.new w1 32 #[.int .i64 0, .int .i64 3, .int .i64 0, .int .i64 0, .int .i64 0, .int .i64 0])
  have HR1 := Lib.hid (hR.below (wz := w1.alloc (.cells #[.int .i64 0, .int .i64 3, .int .i64 0, .int .i64 0, .int .i64 0, .int .i64 0] 32)) ((Below.refl _ _).alloc (Nat.le_refl _) _))
  clear hR
  go_wp2_with fail
  refine (spre_any HR1.out.sl (has_one lr HX.out) (n := 1) rfl (by omega)).mono ?_
  rintro e w2 ⟨rfl, hp⟩
  have hx2 := hp.far HR1.out.sl HX.out (by decide) (by decide)
  obtain ⟨u1, u2, hr⟩ := HR1.out.post hp
  rw [show (!(Sx.new n).ch.isSome) = true from rfl]
  obtain ⟨gb, hgb⟩ : ∃ y, w1.heap.size = y := ⟨_, rfl⟩
  rw [hgb] at hx2 ⊢
  have HX2 := Lib.hid hx2
  clear hp hx2 hgb HX HR1
  go_wp2_with fail
  refine (HW2.out _).mono ?_
  rintro e wa ⟨rfl, rfl⟩
  rcases hk with hk | hk
  · rw [hk]
    have HR4 := Lib.hid (show Rs _ sb u1 u2 (1 + (p : Int)) (Lo4 n noM) w2 from lo4_new n ▸ hr)
    clear hr hk1 hk HW2
    go_wp2_with fail
    refine (HNo.out _).mono ?_
    rintro e wq ⟨rfl, rfl⟩
    have HLo := Lib.hid (fun (cs : Array Value) (hcs : cs = boolCells noM) => show Lo w (Lo4 n) sb gb w2.heap.size (1 + (p : Int)) noM u1 u2 (w2.alloc (.cells cs 63)) from
      ⟨HR4.out.below ((Below.refl _ _).alloc (Nat.le_refl _) _), HX2.out.alloc _, hcs ▸ Blk.new _ _ _, rfl, HR4.out.low.size⟩)
    obtain ⟨hb, hhb⟩ : ∃ y, w2.heap.size = y := ⟨_, rfl⟩
    rw [hhb] at HLo
    clear HR4 HX2
    go_wp2_with fail
    clear hhb
    go_loopw [12] (fun x wr => ∃ (i : Nat) (bs : List Bool) (v1 v2 : Value), x = .int .i64 i ∧ i ≤ m0 ∧ i ≤ 60 ∧ Hid (Lo w (Lo4 n) sb gb hb (1 + (p : Int)) bs v1 v2 wr)) (fun x _ => m0 - (intOf x).toNat)
    case atStart => exact ⟨0, noM, u1, u2, rfl, Nat.zero_le _, Nat.zero_le _, HLo.out _ (by rfl)⟩
    case round =>
      obtain ⟨i, bs, v1, v2, rfl, hi, hi60, HS⟩ := hrel
      by_cases hlt : i < m0 ∧ i < 60
      · obtain ⟨hlt1, hlt2⟩ := hlt
        obtain ⟨ad, z, rfl, hab, hcz, -, hzm⟩ := (HS.out.rs.has HL.out.has).int (show i < zs.length by rw [HN.out]; exact hlt1)
        obtain ⟨y1, y2⟩ := wf_i64 (HL.out.fits z hzm)
        have hz0 := Int.emod_nonneg z (show (n : Int) ≠ 0 by have := HQn.out.2.2.2; omega)
        have hz1 := Int.emod_lt_of_pos z (show 0 < (n : Int) by have := HQn.out.2.2.2; omega)
        have HWz := Lib.hid (fun (w : World) => (show Calls Try.prog 9 #[.int .i64 z, .int .i64 (n : Int)] w fun e w' => e = .returned (.int .i64 (z % (n : Int))) ∧ w = w' from
          within_any z (n : Int) (by have := HQn.out.2.2.2; omega) (by omega) y1 y2 w))
        obtain ⟨k, hk⟩ : ∃ k : Nat, z % (n : Int) = k := ⟨(z % (n : Int)).toNat, by omega⟩
        rw [hk] at HWz hz1
        have hkn : k < n := by omega
        have hk13 : k < 13 := by omega
        obtain ⟨b, hbb⟩ := got (l := bs) (k := k) (by rw [HS.out.len]; exact hk13)
        have HV := Lib.hid (lo4_v hkn hbb)
        have hlt3 : (i : Int) < (m0 : Int) := by omega
        have hlt4 : (i : Int) < 60 := by omega
        have hki : (k : Int) < 13 := by omega
        have hwr : IntKind.i64.wrap (100 + (k : Int)) = 100 + (k : Int) := by rw [IntKind.wrap_i64]; omega
        have HB := Lib.hid hbb
        clear hk hz0 hz1 y1 y2 hzm hbb hab
        go_wp2_with fail
        refine (HWz.out _).mono ?_
        rintro e wq ⟨rfl, rfl⟩
        have HSd := Lib.hid (HS.out.below (wz := wr.drew) ⟨rfl, rfl, rfl, Nat.le_refl _, fun _ _ => rfl⟩)
        have HVo := Lib.hid (svote_any (c := 1) HSd.out.rs.sl 4 k (100 + k) (has_one lr HSd.out.box) (n := 1) rfl (by omega))
        rw [HV.out] at HVo
        have hq1 : wr.drew.cell? ⟨hb, k, none⟩ = some (.bool b) := bool_cell14 HSd.out.arr HB.out
        have HSt := Lib.hid (fun (wz : World) (hp : SlPost wr.drew (fun _ => True) sb v1 v2 (1 + (p : Int)) (Lo4 n (bs.set k true)) wz) => And.intro (bool_cell14 (HSd.out.arr2 hp) HB.out) (And.intro ((HSd.out.arr2 hp).frozen k) (HSd.out.step hp)))
        clear HV HWz hcz
        cases b
        · go_wp2_with fail
          go_region_held3 (fun w' => w'.cell? ⟨hb, k, none⟩ = some (.bool false)) (first | exact hq1 | exact hq2 | go_keep)
            ((go_at_call 14; with_reducible refine HVo.out.mono ?_; rintro e w6 ⟨rfl, hp⟩; obtain ⟨hq2, hq3, x1, x2, hs⟩ := HSt.out w6 hp))
          have HS6 := Lib.hid hs
          clear hp hs hq1
          go_wp2_with fail
          go_roundw
          case rel => exact ⟨i + 1, bs.set k true, x1, x2, by go_num, by omega, by omega, HS6⟩
          case measure => simp [intOf]; omega
        · go_wp2_with fail
          go_region_held3 (fun w' => w'.cell? ⟨hb, k, none⟩ = some (.bool true)) (first | exact hq1 | exact hq2 | go_keep)
            ((go_at_call 14; with_reducible refine HVo.out.mono ?_; rintro e w6 ⟨rfl, hp⟩; obtain ⟨hq2, hq3, x1, x2, hs⟩ := HSt.out w6 hp))
          have HS6 := Lib.hid hs
          clear hp hs hq1
          go_wp2_with fail
          go_roundw
          case rel => exact ⟨i + 1, bs.set k true, x1, x2, by go_num, by omega, by omega, HS6⟩
          case measure => simp [intOf]; omega
      · have HS1 := Lib.hid HS.out.rs.low
        have h0 : i < m0 ∧ i = 60 ∨ i = m0 := by omega
        clear hlt hi hi60
        rcases h0 with ⟨h1, h2⟩ | rfl
        · have h1i : (i : Int) < (m0 : Int) := by omega
          have h60 : decide ((i : Int) < 60) = false := decide_eq_false (by omega)
          clear h2
          go_wp2_with fail
          go_loopw [14, 15] (fun y x wz => ∃ (k m : Nat), x = .int .i64 k ∧ k ≤ n ∧ m ≤ q ∧ m ≤ k ∧ Hid (Fo w (tellM n bs 100 [lr]) [lr] k m y wz) ∧ Hid (Lo w (Lo4 n) sb gb hb (1 + (p : Int)) bs v1 v2 wz)) (fun _ x _ => n - (intOf x).toNat)
          case atStart => exact ⟨0, 0, rfl, Nat.zero_le _, Nat.zero_le _, Nat.le_refl _, ⟨World.ownsRow_nil _ _ _ _, rfl, HS1.out⟩, HS⟩
          case round =>
            clear HS HS1
            obtain ⟨k, m, rfl, hk, hm, hmk, HF, HS⟩ := hrel
            by_cases hkn : k < n
            · by_cases hm : m < q
              · obtain ⟨b, hbb⟩ := got (l := bs) (k := k) (by rw [HS.out.len]; omega)
                have hq1 := bool_cell14 HS.out.arr hbb
                have hki : (k : Int) < 13 := by omega
                have HX := Lib.hid (tellM_at bs 100 [lr] hkn)
                have HB := Lib.hid hbb
                clear hbb
                obtain ⟨Au, cu, rfl, -, -⟩ := own_slice HF.out.own
                cases b
                · have HF2 := Lib.hid (HF.out.no HX.out (by rw [if_neg (by rw [HB.out]; simp)]; rintro ⟨e, -⟩; cases e))
                  go_wp2_with fail
                  refine (HQ.out _).mono ?_
                  rintro e wq ⟨rfl, rfl⟩
                  go_wp2_with fail
                  go_roundw
                  case rel => exact ⟨k + 1, m, by go_num, by omega, by omega, by omega, HF2, HS⟩
                  case measure => simp [intOf]; omega
                · go_wp2_with fail
                  refine (HQ.out _).mono ?_
                  rintro e wq ⟨rfl, rfl⟩
                  have HBv := Lib.hid (show Below wr.heap.size wr (wr.alloc (.cells #[.int .i64 (k : Int), .int .i64 (100 + (k : Int))] 44)) from (Below.refl _ _).alloc (Nat.le_refl _) _)
                  have HOv := Lib.hid (below_own HF.out.own HBv.out (Nat.le_refl _))
                  have HNv := Lib.hid (show Has (wr.alloc (.cells #[.int .i64 (k : Int), .int .i64 (100 + (k : Int))] 44)) (wr.heap.size + 1) (some ⟨wr.heap.size, 0, none⟩) (voteCells [⟨(k : Int), 100 + (k : Int)⟩]) from Has.fresh wr #[.int .i64 (k : Int), .int .i64 (100 + (k : Int))] 44)
                  have HOne := Lib.hid (voteCells_one [⟨(k : Int), 100 + (k : Int)⟩])
                  have HM1 := Lib.hid (show m + 1 ≤ maxLen by unfold maxLen; omega)
                  have HM2 := Lib.hid (show (m + 1) * 16 ≤ 140737488355328 by omega)
                  have HM3 := Lib.hid (show w.heap.size ≤ (wr.alloc (.cells #[.int .i64 (k : Int), .int .i64 (100 + (k : Int))] 44)).heap.size from Nat.le_trans HF.out.low.size HBv.out.size)
                  have HS2 := Lib.hid (HS.out.below HBv.out)
                  have HYes := Lib.hid (show ((if bs[k]? = some true then (⟨true, 100 + (k : Int), [lr]⟩ : Vo) else offV) = ⟨true, 100 + (k : Int), [lr]⟩) from if_pos HB.out)
                  rw [HYes.out] at HX
                  go_wp2_with (at_builtin; refine wpList_apps rfl _ _ 37 rfl w.heap.size 44 i0 _ 2 16 Try.underlying37 hi0 hx0 hx1 hx2 rfl (by decide) _ _ _ rfl HOv.out _ (some ⟨wr.heap.size, 0, none⟩) 1 1 (voteCells [⟨(k : Int), 100 + (k : Int)⟩]) rfl rfl HNv.out (fun h => nomatch h) HOne.out HM1.out HM2.out HM3.out ?_)
                  intro u9 w9 ho hg hb9
                  have HF3 := Lib.hid (HF.out.yes HX.out ⟨rfl, rfl⟩ ho ((HF.out.low.trans (HBv.out.mono HF.out.low.size)).grown hg HM3.out (fun k hk => (HOv.out.lt k hk).1)))
                  have HS3 := Lib.hid (HS2.out.grown HOv.out hg)
                  clear ho hg hb9
                  go_wp2_with fail
                  go_roundw
                  case rel => exact ⟨k + 1, m + 1, by go_num, by omega, by omega, by omega, HF3, HS3⟩
                  case measure => simp [intOf]; omega
              · obtain rfl : q = m := by omega
                have HD := Lib.hid (show decS (tellM n bs 100 [lr]) [lr] q = some (forL 0 ((tellM n bs 100 [lr]).take k) [lr]) from decS_here HF.out.len)
                have hu := HF.out.own
                obtain ⟨Au, cu, rfl, -, -⟩ := own_slice hu
                have HU := Lib.hid hu
                clear hu
                have HFl := Lib.hid HF.out.len
                obtain ⟨l, hl⟩ : ∃ y, forL 0 ((tellM n bs 100 [lr]).take k) [lr] = y := ⟨_, rfl⟩
                rw [hl] at HU HD HFl
                clear hl
                go_wp2_with fail
                refine (HQ.out _).mono ?_
                rintro e wq ⟨rfl, rfl⟩
                go_wp2_with fail
                refine (HQ.out _).mono ?_
                rintro e wq ⟨rfl, rfl⟩
                have HP := Lib.hid (prep_some HS.out.rs HQq.out HD.out HFl.out)
                go_wp2_with fail
                refine HP.out.mono ?_
                rintro e w5 ⟨A5, d5, rfl, ho5, hb5⟩
                have HS5 := Lib.hid (HS.out.below hb5)
                have HU5 := Lib.hid (below_own HU.out hb5 (Nat.le_refl _))
                have HO5 := Lib.hid ho5
                clear ho5
                clear hb5 HP
                have HSm := Lib.hid (same_votes_is (A := A5) (A' := Au) (c := d5) (c' := cu) (la := q) (lb := q) (zs := l) (ys := l) (r := true) HFl.out HFl.out (by omega) (sameL_self' l) w5 (has_rows HO5.out) (has_rows HU5.out))
                go_wp2_with fail
                refine HSm.out.mono ?_
                rintro e w7 ⟨rfl, mm, rfl⟩
                have HS7 := Lib.hid (HS5.out.rs.drewN mm)
                go_wp2_with fail
                refine (wakes14_any _).mono ?_
                rintro e w9 ⟨rfl, hb9⟩
                go_wp2_with fail
                go_ret
                exact ⟨rfl, HS7.out.low.trans (hb9.mono HS7.out.low.size)⟩
            · obtain rfl : k = n := by omega
              by_cases hm : m < q
              · have HD := Lib.hid (show decS (tellM k bs 100 [lr]) [lr] q = none from decS_end (k := k) (by rw [HF.out.len]; exact hm) (by rw [tellM_len]; exact Nat.le_refl _))
                obtain ⟨Au, cu, rfl, -, -⟩ := own_slice HF.out.own
                go_wp2_with fail
                refine (HQ.out _).mono ?_
                rintro e wq ⟨rfl, rfl⟩
                have HP := Lib.hid (prep_none HS.out.rs HQq.out HD.out)
                go_wp2_with fail
                refine HP.out.mono ?_
                rintro e w5 ⟨A5, d5, rfl, hb5⟩
                have HS5 := Lib.hid (HS.out.below hb5)
                clear hb5 HP
                have HSm := Lib.hid (same_votes_is (A := A5) (A' := none) (c := d5) (c' := 0) (la := 0) (lb := 0) (zs := []) (ys := []) (r := true) (B := 0) rfl rfl (by omega) (by decide +kernel) w5 (Has.nil _ _ _) (Has.nil _ _ _))
                go_wp2_with fail
                refine HSm.out.mono ?_
                rintro e w7 ⟨rfl, mm, rfl⟩
                have HS7 := Lib.hid (HS5.out.rs.drewN mm)
                go_wp2_with fail
                refine (wakes14_any _).mono ?_
                rintro e w9 ⟨rfl, hb9⟩
                go_wp2_with fail
                go_ret
                exact ⟨rfl, HS7.out.low.trans (hb9.mono HS7.out.low.size)⟩
              · obtain rfl : q = m := by omega
                have HD := Lib.hid (show decS (tellM k bs 100 [lr]) [lr] q = some (forL 0 ((tellM k bs 100 [lr]).take k) [lr]) from decS_here HF.out.len)
                have hu := HF.out.own
                obtain ⟨Au, cu, rfl, -, -⟩ := own_slice hu
                have HU := Lib.hid hu
                clear hu
                have HFl := Lib.hid HF.out.len
                obtain ⟨l, hl⟩ : ∃ y, forL 0 ((tellM k bs 100 [lr]).take k) [lr] = y := ⟨_, rfl⟩
                rw [hl] at HU HD HFl
                clear hl
                go_wp2_with fail
                refine (HQ.out _).mono ?_
                rintro e wq ⟨rfl, rfl⟩
                have HP := Lib.hid (prep_some HS.out.rs HQq.out HD.out HFl.out)
                go_wp2_with fail
                refine HP.out.mono ?_
                rintro e w5 ⟨A5, d5, rfl, ho5, hb5⟩
                have HS5 := Lib.hid (HS.out.below hb5)
                have HU5 := Lib.hid (below_own HU.out hb5 (Nat.le_refl _))
                have HO5 := Lib.hid ho5
                clear ho5
                clear hb5 HP
                have HSm := Lib.hid (same_votes_is (A := A5) (A' := Au) (c := d5) (c' := cu) (la := q) (lb := q) (zs := l) (ys := l) (r := true) HFl.out HFl.out (by omega) (sameL_self' l) w5 (has_rows HO5.out) (has_rows HU5.out))
                go_wp2_with fail
                refine HSm.out.mono ?_
                rintro e w7 ⟨rfl, mm, rfl⟩
                have HS7 := Lib.hid (HS5.out.rs.drewN mm)
                go_wp2_with fail
                refine (wakes14_any _).mono ?_
                rintro e w9 ⟨rfl, hb9⟩
                go_wp2_with fail
                go_ret
                exact ⟨rfl, HS7.out.low.trans (hb9.mono HS7.out.low.size)⟩
        · go_wp2_with fail
          go_loopw [14, 15] (fun y x wz => ∃ (k m : Nat), x = .int .i64 k ∧ k ≤ n ∧ m ≤ q ∧ m ≤ k ∧ Hid (Fo w (tellM n bs 100 [lr]) [lr] k m y wz) ∧ Hid (Lo w (Lo4 n) sb gb hb (1 + (p : Int)) bs v1 v2 wz)) (fun _ x _ => n - (intOf x).toNat)
          case atStart => exact ⟨0, 0, rfl, Nat.zero_le _, Nat.zero_le _, Nat.le_refl _, ⟨World.ownsRow_nil _ _ _ _, rfl, HS1.out⟩, HS⟩
          case round =>
            clear HS HS1
            obtain ⟨k, m, rfl, hk, hm, hmk, HF, HS⟩ := hrel
            by_cases hkn : k < n
            · by_cases hm : m < q
              · obtain ⟨b, hbb⟩ := got (l := bs) (k := k) (by rw [HS.out.len]; omega)
                have hq1 := bool_cell14 HS.out.arr hbb
                have hki : (k : Int) < 13 := by omega
                have HX := Lib.hid (tellM_at bs 100 [lr] hkn)
                have HB := Lib.hid hbb
                clear hbb
                obtain ⟨Au, cu, rfl, -, -⟩ := own_slice HF.out.own
                cases b
                · have HF2 := Lib.hid (HF.out.no HX.out (by rw [if_neg (by rw [HB.out]; simp)]; rintro ⟨e, -⟩; cases e))
                  go_wp2_with fail
                  refine (HQ.out _).mono ?_
                  rintro e wq ⟨rfl, rfl⟩
                  go_wp2_with fail
                  go_roundw
                  case rel => exact ⟨k + 1, m, by go_num, by omega, by omega, by omega, HF2, HS⟩
                  case measure => simp [intOf]; omega
                · go_wp2_with fail
                  refine (HQ.out _).mono ?_
                  rintro e wq ⟨rfl, rfl⟩
                  have HBv := Lib.hid (show Below wr.heap.size wr (wr.alloc (.cells #[.int .i64 (k : Int), .int .i64 (100 + (k : Int))] 44)) from (Below.refl _ _).alloc (Nat.le_refl _) _)
                  have HOv := Lib.hid (below_own HF.out.own HBv.out (Nat.le_refl _))
                  have HNv := Lib.hid (show Has (wr.alloc (.cells #[.int .i64 (k : Int), .int .i64 (100 + (k : Int))] 44)) (wr.heap.size + 1) (some ⟨wr.heap.size, 0, none⟩) (voteCells [⟨(k : Int), 100 + (k : Int)⟩]) from Has.fresh wr #[.int .i64 (k : Int), .int .i64 (100 + (k : Int))] 44)
                  have HOne := Lib.hid (voteCells_one [⟨(k : Int), 100 + (k : Int)⟩])
                  have HM1 := Lib.hid (show m + 1 ≤ maxLen by unfold maxLen; omega)
                  have HM2 := Lib.hid (show (m + 1) * 16 ≤ 140737488355328 by omega)
                  have HM3 := Lib.hid (show w.heap.size ≤ (wr.alloc (.cells #[.int .i64 (k : Int), .int .i64 (100 + (k : Int))] 44)).heap.size from Nat.le_trans HF.out.low.size HBv.out.size)
                  have HS2 := Lib.hid (HS.out.below HBv.out)
                  have HYes := Lib.hid (show ((if bs[k]? = some true then (⟨true, 100 + (k : Int), [lr]⟩ : Vo) else offV) = ⟨true, 100 + (k : Int), [lr]⟩) from if_pos HB.out)
                  rw [HYes.out] at HX
                  go_wp2_with (at_builtin; refine wpList_apps rfl _ _ 37 rfl w.heap.size 44 i0 _ 2 16 Try.underlying37 hi0 hx0 hx1 hx2 rfl (by decide) _ _ _ rfl HOv.out _ (some ⟨wr.heap.size, 0, none⟩) 1 1 (voteCells [⟨(k : Int), 100 + (k : Int)⟩]) rfl rfl HNv.out (fun h => nomatch h) HOne.out HM1.out HM2.out HM3.out ?_)
                  intro u9 w9 ho hg hb9
                  have HF3 := Lib.hid (HF.out.yes HX.out ⟨rfl, rfl⟩ ho ((HF.out.low.trans (HBv.out.mono HF.out.low.size)).grown hg HM3.out (fun k hk => (HOv.out.lt k hk).1)))
                  have HS3 := Lib.hid (HS2.out.grown HOv.out hg)
                  clear ho hg hb9
                  go_wp2_with fail
                  go_roundw
                  case rel => exact ⟨k + 1, m + 1, by go_num, by omega, by omega, by omega, HF3, HS3⟩
                  case measure => simp [intOf]; omega
              · obtain rfl : q = m := by omega
                have HD := Lib.hid (show decS (tellM n bs 100 [lr]) [lr] q = some (forL 0 ((tellM n bs 100 [lr]).take k) [lr]) from decS_here HF.out.len)
                have hu := HF.out.own
                obtain ⟨Au, cu, rfl, -, -⟩ := own_slice hu
                have HU := Lib.hid hu
                clear hu
                have HFl := Lib.hid HF.out.len
                obtain ⟨l, hl⟩ : ∃ y, forL 0 ((tellM n bs 100 [lr]).take k) [lr] = y := ⟨_, rfl⟩
                rw [hl] at HU HD HFl
                clear hl
                go_wp2_with fail
                refine (HQ.out _).mono ?_
                rintro e wq ⟨rfl, rfl⟩
                go_wp2_with fail
                refine (HQ.out _).mono ?_
                rintro e wq ⟨rfl, rfl⟩
                have HP := Lib.hid (prep_some HS.out.rs HQq.out HD.out HFl.out)
                go_wp2_with fail
                refine HP.out.mono ?_
                rintro e w5 ⟨A5, d5, rfl, ho5, hb5⟩
                have HS5 := Lib.hid (HS.out.below hb5)
                have HU5 := Lib.hid (below_own HU.out hb5 (Nat.le_refl _))
                have HO5 := Lib.hid ho5
                clear ho5
                clear hb5 HP
                have HSm := Lib.hid (same_votes_is (A := A5) (A' := Au) (c := d5) (c' := cu) (la := q) (lb := q) (zs := l) (ys := l) (r := true) HFl.out HFl.out (by omega) (sameL_self' l) w5 (has_rows HO5.out) (has_rows HU5.out))
                go_wp2_with fail
                refine HSm.out.mono ?_
                rintro e w7 ⟨rfl, mm, rfl⟩
                have HS7 := Lib.hid (HS5.out.rs.drewN mm)
                go_wp2_with fail
                refine (wakes14_any _).mono ?_
                rintro e w9 ⟨rfl, hb9⟩
                go_wp2_with fail
                go_ret
                exact ⟨rfl, HS7.out.low.trans (hb9.mono HS7.out.low.size)⟩
            · obtain rfl : k = n := by omega
              by_cases hm : m < q
              · have HD := Lib.hid (show decS (tellM k bs 100 [lr]) [lr] q = none from decS_end (k := k) (by rw [HF.out.len]; exact hm) (by rw [tellM_len]; exact Nat.le_refl _))
                obtain ⟨Au, cu, rfl, -, -⟩ := own_slice HF.out.own
                go_wp2_with fail
                refine (HQ.out _).mono ?_
                rintro e wq ⟨rfl, rfl⟩
                have HP := Lib.hid (prep_none HS.out.rs HQq.out HD.out)
                go_wp2_with fail
                refine HP.out.mono ?_
                rintro e w5 ⟨A5, d5, rfl, hb5⟩
                have HS5 := Lib.hid (HS.out.below hb5)
                clear hb5 HP
                have HSm := Lib.hid (same_votes_is (A := A5) (A' := none) (c := d5) (c' := 0) (la := 0) (lb := 0) (zs := []) (ys := []) (r := true) (B := 0) rfl rfl (by omega) (by decide +kernel) w5 (Has.nil _ _ _) (Has.nil _ _ _))
                go_wp2_with fail
                refine HSm.out.mono ?_
                rintro e w7 ⟨rfl, mm, rfl⟩
                have HS7 := Lib.hid (HS5.out.rs.drewN mm)
                go_wp2_with fail
                refine (wakes14_any _).mono ?_
                rintro e w9 ⟨rfl, hb9⟩
                go_wp2_with fail
                go_ret
                exact ⟨rfl, HS7.out.low.trans (hb9.mono HS7.out.low.size)⟩
              · obtain rfl : q = m := by omega
                have HD := Lib.hid (show decS (tellM k bs 100 [lr]) [lr] q = some (forL 0 ((tellM k bs 100 [lr]).take k) [lr]) from decS_here HF.out.len)
                have hu := HF.out.own
                obtain ⟨Au, cu, rfl, -, -⟩ := own_slice hu
                have HU := Lib.hid hu
                clear hu
                have HFl := Lib.hid HF.out.len
                obtain ⟨l, hl⟩ : ∃ y, forL 0 ((tellM k bs 100 [lr]).take k) [lr] = y := ⟨_, rfl⟩
                rw [hl] at HU HD HFl
                clear hl
                go_wp2_with fail
                refine (HQ.out _).mono ?_
                rintro e wq ⟨rfl, rfl⟩
                have HP := Lib.hid (prep_some HS.out.rs HQq.out HD.out HFl.out)
                go_wp2_with fail
                refine HP.out.mono ?_
                rintro e w5 ⟨A5, d5, rfl, ho5, hb5⟩
                have HS5 := Lib.hid (HS.out.below hb5)
                have HU5 := Lib.hid (below_own HU.out hb5 (Nat.le_refl _))
                have HO5 := Lib.hid ho5
                clear ho5
                clear hb5 HP
                have HSm := Lib.hid (same_votes_is (A := A5) (A' := Au) (c := d5) (c' := cu) (la := q) (lb := q) (zs := l) (ys := l) (r := true) HFl.out HFl.out (by omega) (sameL_self' l) w5 (has_rows HO5.out) (has_rows HU5.out))
                go_wp2_with fail
                refine HSm.out.mono ?_
                rintro e w7 ⟨rfl, mm, rfl⟩
                have HS7 := Lib.hid (HS5.out.rs.drewN mm)
                go_wp2_with fail
                refine (wakes14_any _).mono ?_
                rintro e w9 ⟨rfl, hb9⟩
                go_wp2_with fail
                go_ret
                exact ⟨rfl, HS7.out.low.trans (hb9.mono HS7.out.low.size)⟩
  · rw [hk]
    have HR4 := Lib.hid (show Rs _ sb u1 u2 (1 + (p : Int)) (Lo5 n noM) w2 from lo5_new n ▸ hr)
    clear hr hk1 hk HW2
    go_wp2_with fail
    refine (HNo.out _).mono ?_
    rintro e wq ⟨rfl, rfl⟩
    have HLo := Lib.hid (fun (cs : Array Value) (hcs : cs = boolCells noM) => show Lo w (Lo5 n) sb gb w2.heap.size (1 + (p : Int)) noM u1 u2 (w2.alloc (.cells cs 63)) from
      ⟨HR4.out.below ((Below.refl _ _).alloc (Nat.le_refl _) _), HX2.out.alloc _, hcs ▸ Blk.new _ _ _, rfl, HR4.out.low.size⟩)
    obtain ⟨hb, hhb⟩ : ∃ y, w2.heap.size = y := ⟨_, rfl⟩
    rw [hhb] at HLo
    clear HR4 HX2
    go_wp2_with fail
    clear hhb
    go_loopw [12] (fun x wr => ∃ (i : Nat) (bs : List Bool) (v1 v2 : Value), x = .int .i64 i ∧ i ≤ m0 ∧ i ≤ 60 ∧ Hid (Lo w (Lo5 n) sb gb hb (1 + (p : Int)) bs v1 v2 wr)) (fun x _ => m0 - (intOf x).toNat)
    case atStart => exact ⟨0, noM, u1, u2, rfl, Nat.zero_le _, Nat.zero_le _, HLo.out _ (by rfl)⟩
    case round =>
      obtain ⟨i, bs, v1, v2, rfl, hi, hi60, HS⟩ := hrel
      by_cases hlt : i < m0 ∧ i < 60
      · obtain ⟨hlt1, hlt2⟩ := hlt
        obtain ⟨ad, z, rfl, hab, hcz, -, hzm⟩ := (HS.out.rs.has HL.out.has).int (show i < zs.length by rw [HN.out]; exact hlt1)
        obtain ⟨y1, y2⟩ := wf_i64 (HL.out.fits z hzm)
        have hz0 := Int.emod_nonneg z (show (n : Int) ≠ 0 by have := HQn.out.2.2.2; omega)
        have hz1 := Int.emod_lt_of_pos z (show 0 < (n : Int) by have := HQn.out.2.2.2; omega)
        have HWz := Lib.hid (fun (w : World) => (show Calls Try.prog 9 #[.int .i64 z, .int .i64 (n : Int)] w fun e w' => e = .returned (.int .i64 (z % (n : Int))) ∧ w = w' from
          within_any z (n : Int) (by have := HQn.out.2.2.2; omega) (by omega) y1 y2 w))
        obtain ⟨k, hk⟩ : ∃ k : Nat, z % (n : Int) = k := ⟨(z % (n : Int)).toNat, by omega⟩
        rw [hk] at HWz hz1
        have hkn : k < n := by omega
        have hk13 : k < 13 := by omega
        obtain ⟨b, hbb⟩ := got (l := bs) (k := k) (by rw [HS.out.len]; exact hk13)
        have HV := Lib.hid (lo5_v hkn hbb)
        have hlt3 : (i : Int) < (m0 : Int) := by omega
        have hlt4 : (i : Int) < 60 := by omega
        have hki : (k : Int) < 13 := by omega
        have hwr : IntKind.i64.wrap (100 + (k : Int)) = 100 + (k : Int) := by rw [IntKind.wrap_i64]; omega
        have HB := Lib.hid hbb
        clear hk hz0 hz1 y1 y2 hzm hbb hab
        go_wp2_with fail
        refine (HWz.out _).mono ?_
        rintro e wq ⟨rfl, rfl⟩
        have HSd := Lib.hid (HS.out.below (wz := wr.drew) ⟨rfl, rfl, rfl, Nat.le_refl _, fun _ _ => rfl⟩)
        have HVo := Lib.hid (svote_any (c := 1) HSd.out.rs.sl 5 k (100 + k) (has_one lr HSd.out.box) (n := 1) rfl (by omega))
        rw [HV.out] at HVo
        have hq1 : wr.drew.cell? ⟨hb, k, none⟩ = some (.bool b) := bool_cell14 HSd.out.arr HB.out
        have HSt := Lib.hid (fun (wz : World) (hp : SlPost wr.drew (fun _ => True) sb v1 v2 (1 + (p : Int)) (Lo5 n (bs.set k true)) wz) => And.intro (bool_cell14 (HSd.out.arr2 hp) HB.out) (And.intro ((HSd.out.arr2 hp).frozen k) (HSd.out.step hp)))
        clear HV HWz hcz
        cases b
        · go_wp2_with fail
          go_region_held3 (fun w' => w'.cell? ⟨hb, k, none⟩ = some (.bool false)) (first | exact hq1 | exact hq2 | go_keep)
            ((go_at_call 14; with_reducible refine HVo.out.mono ?_; rintro e w6 ⟨rfl, hp⟩; obtain ⟨hq2, hq3, x1, x2, hs⟩ := HSt.out w6 hp))
          have HS6 := Lib.hid hs
          clear hp hs hq1
          go_wp2_with fail
          go_roundw
          case rel => exact ⟨i + 1, bs.set k true, x1, x2, by go_num, by omega, by omega, HS6⟩
          case measure => simp [intOf]; omega
        · go_wp2_with fail
          go_region_held3 (fun w' => w'.cell? ⟨hb, k, none⟩ = some (.bool true)) (first | exact hq1 | exact hq2 | go_keep)
            ((go_at_call 14; with_reducible refine HVo.out.mono ?_; rintro e w6 ⟨rfl, hp⟩; obtain ⟨hq2, hq3, x1, x2, hs⟩ := HSt.out w6 hp))
          have HS6 := Lib.hid hs
          clear hp hs hq1
          go_wp2_with fail
          go_roundw
          case rel => exact ⟨i + 1, bs.set k true, x1, x2, by go_num, by omega, by omega, HS6⟩
          case measure => simp [intOf]; omega
      · have HS1 := Lib.hid HS.out.rs.low
        have h0 : i < m0 ∧ i = 60 ∨ i = m0 := by omega
        clear hlt hi hi60
        rcases h0 with ⟨h1, h2⟩ | rfl
        · have h1i : (i : Int) < (m0 : Int) := by omega
          have h60 : decide ((i : Int) < 60) = false := decide_eq_false (by omega)
          clear h2
          go_wp2_with fail
          go_loopw [14, 15] (fun y x wz => ∃ (k m : Nat), x = .int .i64 k ∧ k ≤ n ∧ m ≤ q ∧ m ≤ k ∧ Hid (Fo w (tellM n bs 100 [lr]) [lr] k m y wz) ∧ Hid (Lo w (Lo5 n) sb gb hb (1 + (p : Int)) bs v1 v2 wz)) (fun _ x _ => n - (intOf x).toNat)
          case atStart => exact ⟨0, 0, rfl, Nat.zero_le _, Nat.zero_le _, Nat.le_refl _, ⟨World.ownsRow_nil _ _ _ _, rfl, HS1.out⟩, HS⟩
          case round =>
            clear HS HS1
            obtain ⟨k, m, rfl, hk, hm, hmk, HF, HS⟩ := hrel
            by_cases hkn : k < n
            · by_cases hm : m < q
              · obtain ⟨b, hbb⟩ := got (l := bs) (k := k) (by rw [HS.out.len]; omega)
                have hq1 := bool_cell14 HS.out.arr hbb
                have hki : (k : Int) < 13 := by omega
                have HX := Lib.hid (tellM_at bs 100 [lr] hkn)
                have HB := Lib.hid hbb
                clear hbb
                obtain ⟨Au, cu, rfl, -, -⟩ := own_slice HF.out.own
                cases b
                · have HF2 := Lib.hid (HF.out.no HX.out (by rw [if_neg (by rw [HB.out]; simp)]; rintro ⟨e, -⟩; cases e))
                  go_wp2_with fail
                  refine (HQ.out _).mono ?_
                  rintro e wq ⟨rfl, rfl⟩
                  go_wp2_with fail
                  go_roundw
                  case rel => exact ⟨k + 1, m, by go_num, by omega, by omega, by omega, HF2, HS⟩
                  case measure => simp [intOf]; omega
                · go_wp2_with fail
                  refine (HQ.out _).mono ?_
                  rintro e wq ⟨rfl, rfl⟩
                  have HBv := Lib.hid (show Below wr.heap.size wr (wr.alloc (.cells #[.int .i64 (k : Int), .int .i64 (100 + (k : Int))] 44)) from (Below.refl _ _).alloc (Nat.le_refl _) _)
                  have HOv := Lib.hid (below_own HF.out.own HBv.out (Nat.le_refl _))
                  have HNv := Lib.hid (show Has (wr.alloc (.cells #[.int .i64 (k : Int), .int .i64 (100 + (k : Int))] 44)) (wr.heap.size + 1) (some ⟨wr.heap.size, 0, none⟩) (voteCells [⟨(k : Int), 100 + (k : Int)⟩]) from Has.fresh wr #[.int .i64 (k : Int), .int .i64 (100 + (k : Int))] 44)
                  have HOne := Lib.hid (voteCells_one [⟨(k : Int), 100 + (k : Int)⟩])
                  have HM1 := Lib.hid (show m + 1 ≤ maxLen by unfold maxLen; omega)
                  have HM2 := Lib.hid (show (m + 1) * 16 ≤ 140737488355328 by omega)
                  have HM3 := Lib.hid (show w.heap.size ≤ (wr.alloc (.cells #[.int .i64 (k : Int), .int .i64 (100 + (k : Int))] 44)).heap.size from Nat.le_trans HF.out.low.size HBv.out.size)
                  have HS2 := Lib.hid (HS.out.below HBv.out)
                  have HYes := Lib.hid (show ((if bs[k]? = some true then (⟨true, 100 + (k : Int), [lr]⟩ : Vo) else offV) = ⟨true, 100 + (k : Int), [lr]⟩) from if_pos HB.out)
                  rw [HYes.out] at HX
                  go_wp2_with (at_builtin; refine wpList_apps rfl _ _ 37 rfl w.heap.size 44 i0 _ 2 16 Try.underlying37 hi0 hx0 hx1 hx2 rfl (by decide) _ _ _ rfl HOv.out _ (some ⟨wr.heap.size, 0, none⟩) 1 1 (voteCells [⟨(k : Int), 100 + (k : Int)⟩]) rfl rfl HNv.out (fun h => nomatch h) HOne.out HM1.out HM2.out HM3.out ?_)
                  intro u9 w9 ho hg hb9
                  have HF3 := Lib.hid (HF.out.yes HX.out ⟨rfl, rfl⟩ ho ((HF.out.low.trans (HBv.out.mono HF.out.low.size)).grown hg HM3.out (fun k hk => (HOv.out.lt k hk).1)))
                  have HS3 := Lib.hid (HS2.out.grown HOv.out hg)
                  clear ho hg hb9
                  go_wp2_with fail
                  go_roundw
                  case rel => exact ⟨k + 1, m + 1, by go_num, by omega, by omega, by omega, HF3, HS3⟩
                  case measure => simp [intOf]; omega
              · obtain rfl : q = m := by omega
                have HD := Lib.hid (show decS (tellM n bs 100 [lr]) [lr] q = some (forL 0 ((tellM n bs 100 [lr]).take k) [lr]) from decS_here HF.out.len)
                have hu := HF.out.own
                obtain ⟨Au, cu, rfl, -, -⟩ := own_slice hu
                have HU := Lib.hid hu
                clear hu
                have HFl := Lib.hid HF.out.len
                obtain ⟨l, hl⟩ : ∃ y, forL 0 ((tellM n bs 100 [lr]).take k) [lr] = y := ⟨_, rfl⟩
                rw [hl] at HU HD HFl
                clear hl
                go_wp2_with fail
                refine (HQ.out _).mono ?_
                rintro e wq ⟨rfl, rfl⟩
                go_wp2_with fail
                refine (HQ.out _).mono ?_
                rintro e wq ⟨rfl, rfl⟩
                have HP := Lib.hid (prep_none HS.out.rs HQq.out (lo5_p bs HQn.out.2.2.1))
                go_wp2_with fail
                refine HP.out.mono ?_
                rintro e w5 ⟨A5, d5, rfl, hb5⟩
                have HS5 := Lib.hid (HS.out.below hb5)
                have HU5 := Lib.hid (below_own HU.out hb5 (Nat.le_refl _))
                clear hb5 HP
                have HC := Lib.hid (com_some HS5.out.rs HQq.out (lo5_c1 HQn.out.2.2.1 HQn.out.2.1 HD.out) HFl.out (n := 1) rfl)
                go_wp2_with fail
                refine HC.out.mono ?_
                rintro e w6 ⟨A6, d6, A7, d7, rfl, -, ho6, hb6⟩
                have HS6 := Lib.hid (HS5.out.below hb6)
                have HU6 := Lib.hid (below_own HU5.out hb6 (Nat.le_refl _))
                have HO6 := Lib.hid ho6
                clear ho6
                clear hb6 HC
                have HSm := Lib.hid (same_votes_is (A := A7) (A' := Au) (c := d7) (c' := cu) (la := q) (lb := q) (zs := l) (ys := l) (r := true) HFl.out HFl.out (by omega) (sameL_self' l) w6 (has_rows HO6.out) (has_rows HU6.out))
                go_wp2_with fail
                refine HSm.out.mono ?_
                rintro e w7 ⟨rfl, mm, rfl⟩
                have HS7 := Lib.hid (HS6.out.rs.drewN mm)
                go_wp2_with fail
                refine (wakes14_any _).mono ?_
                rintro e w9 ⟨rfl, hb9⟩
                go_wp2_with fail
                go_ret
                exact ⟨rfl, HS7.out.low.trans (hb9.mono HS7.out.low.size)⟩
            · obtain rfl : k = n := by omega
              by_cases hm : m < q
              · have HD := Lib.hid (show decS (tellM k bs 100 [lr]) [lr] q = none from decS_end (k := k) (by rw [HF.out.len]; exact hm) (by rw [tellM_len]; exact Nat.le_refl _))
                obtain ⟨Au, cu, rfl, -, -⟩ := own_slice HF.out.own
                go_wp2_with fail
                refine (HQ.out _).mono ?_
                rintro e wq ⟨rfl, rfl⟩
                have HP := Lib.hid (prep_none HS.out.rs HQq.out (lo5_p bs HQn.out.2.2.1))
                go_wp2_with fail
                refine HP.out.mono ?_
                rintro e w5 ⟨A5, d5, rfl, hb5⟩
                have HS5 := Lib.hid (HS.out.below hb5)
                clear hb5 HP
                have HC := Lib.hid (com_none HS5.out.rs HQq.out (lo5_c0 HQn.out.2.2.1 HD.out))
                go_wp2_with fail
                refine HC.out.mono ?_
                rintro e w6 ⟨A6, d6, A7, d7, rfl, hb6⟩
                have HS6 := Lib.hid (HS5.out.below hb6)
                clear hb6 HC
                have HSm := Lib.hid (same_votes_is (A := A7) (A' := none) (c := d7) (c' := 0) (la := 0) (lb := 0) (zs := []) (ys := []) (r := true) (B := 0) rfl rfl (by omega) (by decide +kernel) w6 (Has.nil _ _ _) (Has.nil _ _ _))
                go_wp2_with fail
                refine HSm.out.mono ?_
                rintro e w7 ⟨rfl, mm, rfl⟩
                have HS7 := Lib.hid (HS6.out.rs.drewN mm)
                go_wp2_with fail
                refine (wakes14_any _).mono ?_
                rintro e w9 ⟨rfl, hb9⟩
                go_wp2_with fail
                go_ret
                exact ⟨rfl, HS7.out.low.trans (hb9.mono HS7.out.low.size)⟩
              · obtain rfl : q = m := by omega
                have HD := Lib.hid (show decS (tellM k bs 100 [lr]) [lr] q = some (forL 0 ((tellM k bs 100 [lr]).take k) [lr]) from decS_here HF.out.len)
                have hu := HF.out.own
                obtain ⟨Au, cu, rfl, -, -⟩ := own_slice hu
                have HU := Lib.hid hu
                clear hu
                have HFl := Lib.hid HF.out.len
                obtain ⟨l, hl⟩ : ∃ y, forL 0 ((tellM k bs 100 [lr]).take k) [lr] = y := ⟨_, rfl⟩
                rw [hl] at HU HD HFl
                clear hl
                go_wp2_with fail
                refine (HQ.out _).mono ?_
                rintro e wq ⟨rfl, rfl⟩
                have HP := Lib.hid (prep_none HS.out.rs HQq.out (lo5_p bs HQn.out.2.2.1))
                go_wp2_with fail
                refine HP.out.mono ?_
                rintro e w5 ⟨A5, d5, rfl, hb5⟩
                have HS5 := Lib.hid (HS.out.below hb5)
                have HU5 := Lib.hid (below_own HU.out hb5 (Nat.le_refl _))
                clear hb5 HP
                have HC := Lib.hid (com_some HS5.out.rs HQq.out (lo5_c1 HQn.out.2.2.1 HQn.out.2.1 HD.out) HFl.out (n := 1) rfl)
                go_wp2_with fail
                refine HC.out.mono ?_
                rintro e w6 ⟨A6, d6, A7, d7, rfl, -, ho6, hb6⟩
                have HS6 := Lib.hid (HS5.out.below hb6)
                have HU6 := Lib.hid (below_own HU5.out hb6 (Nat.le_refl _))
                have HO6 := Lib.hid ho6
                clear ho6
                clear hb6 HC
                have HSm := Lib.hid (same_votes_is (A := A7) (A' := Au) (c := d7) (c' := cu) (la := q) (lb := q) (zs := l) (ys := l) (r := true) HFl.out HFl.out (by omega) (sameL_self' l) w6 (has_rows HO6.out) (has_rows HU6.out))
                go_wp2_with fail
                refine HSm.out.mono ?_
                rintro e w7 ⟨rfl, mm, rfl⟩
                have HS7 := Lib.hid (HS6.out.rs.drewN mm)
                go_wp2_with fail
                refine (wakes14_any _).mono ?_
                rintro e w9 ⟨rfl, hb9⟩
                go_wp2_with fail
                go_ret
                exact ⟨rfl, HS7.out.low.trans (hb9.mono HS7.out.low.size)⟩
        · go_wp2_with fail
          go_loopw [14, 15] (fun y x wz => ∃ (k m : Nat), x = .int .i64 k ∧ k ≤ n ∧ m ≤ q ∧ m ≤ k ∧ Hid (Fo w (tellM n bs 100 [lr]) [lr] k m y wz) ∧ Hid (Lo w (Lo5 n) sb gb hb (1 + (p : Int)) bs v1 v2 wz)) (fun _ x _ => n - (intOf x).toNat)
          case atStart => exact ⟨0, 0, rfl, Nat.zero_le _, Nat.zero_le _, Nat.le_refl _, ⟨World.ownsRow_nil _ _ _ _, rfl, HS1.out⟩, HS⟩
          case round =>
            clear HS HS1
            obtain ⟨k, m, rfl, hk, hm, hmk, HF, HS⟩ := hrel
            by_cases hkn : k < n
            · by_cases hm : m < q
              · obtain ⟨b, hbb⟩ := got (l := bs) (k := k) (by rw [HS.out.len]; omega)
                have hq1 := bool_cell14 HS.out.arr hbb
                have hki : (k : Int) < 13 := by omega
                have HX := Lib.hid (tellM_at bs 100 [lr] hkn)
                have HB := Lib.hid hbb
                clear hbb
                obtain ⟨Au, cu, rfl, -, -⟩ := own_slice HF.out.own
                cases b
                · have HF2 := Lib.hid (HF.out.no HX.out (by rw [if_neg (by rw [HB.out]; simp)]; rintro ⟨e, -⟩; cases e))
                  go_wp2_with fail
                  refine (HQ.out _).mono ?_
                  rintro e wq ⟨rfl, rfl⟩
                  go_wp2_with fail
                  go_roundw
                  case rel => exact ⟨k + 1, m, by go_num, by omega, by omega, by omega, HF2, HS⟩
                  case measure => simp [intOf]; omega
                · go_wp2_with fail
                  refine (HQ.out _).mono ?_
                  rintro e wq ⟨rfl, rfl⟩
                  have HBv := Lib.hid (show Below wr.heap.size wr (wr.alloc (.cells #[.int .i64 (k : Int), .int .i64 (100 + (k : Int))] 44)) from (Below.refl _ _).alloc (Nat.le_refl _) _)
                  have HOv := Lib.hid (below_own HF.out.own HBv.out (Nat.le_refl _))
                  have HNv := Lib.hid (show Has (wr.alloc (.cells #[.int .i64 (k : Int), .int .i64 (100 + (k : Int))] 44)) (wr.heap.size + 1) (some ⟨wr.heap.size, 0, none⟩) (voteCells [⟨(k : Int), 100 + (k : Int)⟩]) from Has.fresh wr #[.int .i64 (k : Int), .int .i64 (100 + (k : Int))] 44)
                  have HOne := Lib.hid (voteCells_one [⟨(k : Int), 100 + (k : Int)⟩])
                  have HM1 := Lib.hid (show m + 1 ≤ maxLen by unfold maxLen; omega)
                  have HM2 := Lib.hid (show (m + 1) * 16 ≤ 140737488355328 by omega)
                  have HM3 := Lib.hid (show w.heap.size ≤ (wr.alloc (.cells #[.int .i64 (k : Int), .int .i64 (100 + (k : Int))] 44)).heap.size from Nat.le_trans HF.out.low.size HBv.out.size)
                  have HS2 := Lib.hid (HS.out.below HBv.out)
                  have HYes := Lib.hid (show ((if bs[k]? = some true then (⟨true, 100 + (k : Int), [lr]⟩ : Vo) else offV) = ⟨true, 100 + (k : Int), [lr]⟩) from if_pos HB.out)
                  rw [HYes.out] at HX
                  go_wp2_with (at_builtin; refine wpList_apps rfl _ _ 37 rfl w.heap.size 44 i0 _ 2 16 Try.underlying37 hi0 hx0 hx1 hx2 rfl (by decide) _ _ _ rfl HOv.out _ (some ⟨wr.heap.size, 0, none⟩) 1 1 (voteCells [⟨(k : Int), 100 + (k : Int)⟩]) rfl rfl HNv.out (fun h => nomatch h) HOne.out HM1.out HM2.out HM3.out ?_)
                  intro u9 w9 ho hg hb9
                  have HF3 := Lib.hid (HF.out.yes HX.out ⟨rfl, rfl⟩ ho ((HF.out.low.trans (HBv.out.mono HF.out.low.size)).grown hg HM3.out (fun k hk => (HOv.out.lt k hk).1)))
                  have HS3 := Lib.hid (HS2.out.grown HOv.out hg)
                  clear ho hg hb9
                  go_wp2_with fail
                  go_roundw
                  case rel => exact ⟨k + 1, m + 1, by go_num, by omega, by omega, by omega, HF3, HS3⟩
                  case measure => simp [intOf]; omega
              · obtain rfl : q = m := by omega
                have HD := Lib.hid (show decS (tellM n bs 100 [lr]) [lr] q = some (forL 0 ((tellM n bs 100 [lr]).take k) [lr]) from decS_here HF.out.len)
                have hu := HF.out.own
                obtain ⟨Au, cu, rfl, -, -⟩ := own_slice hu
                have HU := Lib.hid hu
                clear hu
                have HFl := Lib.hid HF.out.len
                obtain ⟨l, hl⟩ : ∃ y, forL 0 ((tellM n bs 100 [lr]).take k) [lr] = y := ⟨_, rfl⟩
                rw [hl] at HU HD HFl
                clear hl
                go_wp2_with fail
                refine (HQ.out _).mono ?_
                rintro e wq ⟨rfl, rfl⟩
                go_wp2_with fail
                refine (HQ.out _).mono ?_
                rintro e wq ⟨rfl, rfl⟩
                have HP := Lib.hid (prep_none HS.out.rs HQq.out (lo5_p bs HQn.out.2.2.1))
                go_wp2_with fail
                refine HP.out.mono ?_
                rintro e w5 ⟨A5, d5, rfl, hb5⟩
                have HS5 := Lib.hid (HS.out.below hb5)
                have HU5 := Lib.hid (below_own HU.out hb5 (Nat.le_refl _))
                clear hb5 HP
                have HC := Lib.hid (com_some HS5.out.rs HQq.out (lo5_c1 HQn.out.2.2.1 HQn.out.2.1 HD.out) HFl.out (n := 1) rfl)
                go_wp2_with fail
                refine HC.out.mono ?_
                rintro e w6 ⟨A6, d6, A7, d7, rfl, -, ho6, hb6⟩
                have HS6 := Lib.hid (HS5.out.below hb6)
                have HU6 := Lib.hid (below_own HU5.out hb6 (Nat.le_refl _))
                have HO6 := Lib.hid ho6
                clear ho6
                clear hb6 HC
                have HSm := Lib.hid (same_votes_is (A := A7) (A' := Au) (c := d7) (c' := cu) (la := q) (lb := q) (zs := l) (ys := l) (r := true) HFl.out HFl.out (by omega) (sameL_self' l) w6 (has_rows HO6.out) (has_rows HU6.out))
                go_wp2_with fail
                refine HSm.out.mono ?_
                rintro e w7 ⟨rfl, mm, rfl⟩
                have HS7 := Lib.hid (HS6.out.rs.drewN mm)
                go_wp2_with fail
                refine (wakes14_any _).mono ?_
                rintro e w9 ⟨rfl, hb9⟩
                go_wp2_with fail
                go_ret
                exact ⟨rfl, HS7.out.low.trans (hb9.mono HS7.out.low.size)⟩
            · obtain rfl : k = n := by omega
              by_cases hm : m < q
              · have HD := Lib.hid (show decS (tellM k bs 100 [lr]) [lr] q = none from decS_end (k := k) (by rw [HF.out.len]; exact hm) (by rw [tellM_len]; exact Nat.le_refl _))
                obtain ⟨Au, cu, rfl, -, -⟩ := own_slice HF.out.own
                go_wp2_with fail
                refine (HQ.out _).mono ?_
                rintro e wq ⟨rfl, rfl⟩
                have HP := Lib.hid (prep_none HS.out.rs HQq.out (lo5_p bs HQn.out.2.2.1))
                go_wp2_with fail
                refine HP.out.mono ?_
                rintro e w5 ⟨A5, d5, rfl, hb5⟩
                have HS5 := Lib.hid (HS.out.below hb5)
                clear hb5 HP
                have HC := Lib.hid (com_none HS5.out.rs HQq.out (lo5_c0 HQn.out.2.2.1 HD.out))
                go_wp2_with fail
                refine HC.out.mono ?_
                rintro e w6 ⟨A6, d6, A7, d7, rfl, hb6⟩
                have HS6 := Lib.hid (HS5.out.below hb6)
                clear hb6 HC
                have HSm := Lib.hid (same_votes_is (A := A7) (A' := none) (c := d7) (c' := 0) (la := 0) (lb := 0) (zs := []) (ys := []) (r := true) (B := 0) rfl rfl (by omega) (by decide +kernel) w6 (Has.nil _ _ _) (Has.nil _ _ _))
                go_wp2_with fail
                refine HSm.out.mono ?_
                rintro e w7 ⟨rfl, mm, rfl⟩
                have HS7 := Lib.hid (HS6.out.rs.drewN mm)
                go_wp2_with fail
                refine (wakes14_any _).mono ?_
                rintro e w9 ⟨rfl, hb9⟩
                go_wp2_with fail
                go_ret
                exact ⟨rfl, HS7.out.low.trans (hb9.mono HS7.out.low.size)⟩
              · obtain rfl : q = m := by omega
                have HD := Lib.hid (show decS (tellM k bs 100 [lr]) [lr] q = some (forL 0 ((tellM k bs 100 [lr]).take k) [lr]) from decS_here HF.out.len)
                have hu := HF.out.own
                obtain ⟨Au, cu, rfl, -, -⟩ := own_slice hu
                have HU := Lib.hid hu
                clear hu
                have HFl := Lib.hid HF.out.len
                obtain ⟨l, hl⟩ : ∃ y, forL 0 ((tellM k bs 100 [lr]).take k) [lr] = y := ⟨_, rfl⟩
                rw [hl] at HU HD HFl
                clear hl
                go_wp2_with fail
                refine (HQ.out _).mono ?_
                rintro e wq ⟨rfl, rfl⟩
                have HP := Lib.hid (prep_none HS.out.rs HQq.out (lo5_p bs HQn.out.2.2.1))
                go_wp2_with fail
                refine HP.out.mono ?_
                rintro e w5 ⟨A5, d5, rfl, hb5⟩
                have HS5 := Lib.hid (HS.out.below hb5)
                have HU5 := Lib.hid (below_own HU.out hb5 (Nat.le_refl _))
                clear hb5 HP
                have HC := Lib.hid (com_some HS5.out.rs HQq.out (lo5_c1 HQn.out.2.2.1 HQn.out.2.1 HD.out) HFl.out (n := 1) rfl)
                go_wp2_with fail
                refine HC.out.mono ?_
                rintro e w6 ⟨A6, d6, A7, d7, rfl, -, ho6, hb6⟩
                have HS6 := Lib.hid (HS5.out.below hb6)
                have HU6 := Lib.hid (below_own HU5.out hb6 (Nat.le_refl _))
                have HO6 := Lib.hid ho6
                clear ho6
                clear hb6 HC
                have HSm := Lib.hid (same_votes_is (A := A7) (A' := Au) (c := d7) (c' := cu) (la := q) (lb := q) (zs := l) (ys := l) (r := true) HFl.out HFl.out (by omega) (sameL_self' l) w6 (has_rows HO6.out) (has_rows HU6.out))
                go_wp2_with fail
                refine HSm.out.mono ?_
                rintro e w7 ⟨rfl, mm, rfl⟩
                have HS7 := Lib.hid (HS6.out.rs.drewN mm)
                go_wp2_with fail
                refine (wakes14_any _).mono ?_
                rintro e w9 ⟨rfl, hb9⟩
                go_wp2_with fail
                go_ret
                exact ⟨rfl, HS7.out.low.trans (hb9.mono HS7.out.low.size)⟩
end Go.Proofs.Ythlmalangjgioaa
