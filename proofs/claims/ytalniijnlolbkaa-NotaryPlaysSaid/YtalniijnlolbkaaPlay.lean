/- The contract of the law's own play: whatever the acts, the program's notary and the document's answer alike. -/
import Derived.Test.YtalniijnlolbkaaRefSeal
import Derived.Test.YtalniijnlolbkaaActs
import Derived.Test.YtalniijnlolbkaaWithin
import Derived.Deep.DeepCutAuto
import Derived.Deep.CutBlock
import Derived.Deep.RegionHeld3
import Derived.StillTailTactics
namespace Go.Proofs.Ytalniijnlolbkaa
open Go.RowKit Go.Maps

/-- keep.Copy at bytes: a row of the call's own with the same bytes. -/
theorem copy_row (A : Option Addr) (c n B : Nat) (zs : List Int) (w : World) (hl : zs.length = n) (hm : zs.length ≤ 1048576) (hh : Has w B A (u8s zs)) (hn : A = none → c = 0) :
    Calls Try.prog 17 #[.slice A n c] w fun e w' => ∃ Ab cb, e = .returned (.slice Ab n cb) ∧ w'.ownsRow w.heap.size 5 1 (.slice Ab n cb) n (u8s zs) ∧ Below w.heap.size w w' := by
  obtain ⟨i0, hi, hz0, hz1, hz2⟩ := info_parts (show (Try.prog.info? 5).map (fun i => (i.zero, i.size, i.bytes)) = some (some (.int .u8 0), 1, 1) by kernel_rfl)
  subst hl
  have HH := Lib.hid hh
  have HN := Lib.hid hn
  clear hh hn
  go_enter Try.func17, Try.ntmps17
  go_wp2_with (at_builtin; refine wpList_app rfl _ _ 33 rfl w.heap.size 5 i0 (.int .u8 0) 1 Try.underlying33 hi hz0 hz1 hz2 rfl _ 0 [] rfl (World.ownsRow_nil _ _ _ _) B A _ c (u8s zs) rfl (u8s_len zs) HH.out HN.out (u8s_one zs) (by unfold maxLen; omega) (by omega) (Nat.le_refl _) ?_)
  intro v w1 ho _ hb
  obtain ⟨Ab, cb, rfl, _, _⟩ := own_slice ho
  go_wp2
  go_ret
  exact ⟨Ab, cb, rfl, ho, hb⟩

/-- Between two steps of a round: both tell the same list; H to K: the round's own blocks. -/
structure Rd (R : Nat → Prop) (nb bm rb : Nat) (w : World) (H K : Nat) (L : List Deed) (wx : World) : Prop where
  nt : Nt wx nb bm L
  rf : Rf (fun k => R k ∧ ¬ (H ≤ k ∧ k < K)) wx rb L
  nd : L.Nodup
  tn : Turn (fun k => R k ∨ k = bm) w wx
  sz : K ≤ wx.heap.size
/-- What holds around a round. -/
structure Out (R : Nat → Prop) (nb bm : Nat) (w : World) (B : Nat) : Prop where
  nbn : ¬ R nb
  bmn : ¬ R bm
  new : ∀ k, w.heap.size ≤ k → R k
  low : ∀ k, k < B → ¬ R k ∧ k ≠ bm ∧ k < w.heap.size
/-- The acts, as they lie. -/
structure ActsIn (w : World) (B : Nat) (A : Option Addr) (l : List Ac) (c : Nat) : Prop where
  len : l.length ≤ maxLen
  has : Has w B A (l.flatMap Ac.cells)
  fits : ∀ x ∈ l, fit x.dd ∧ fit x.pt ∧ fit x.kk ∧ x.b.length ≤ maxLen ∧ (x.A = none → x.c = 0) ∧ Has w B x.A (u8s x.b) ∧ x.b.length ≤ x.c

theorem u8s_set (xs : List Int) (j : Nat) (z : Int) : u8s (xs.set j z) = (u8s xs).set j (.int .u8 z) := by simp [u8s, List.map_set]
section
variable {R : Nat → Prop} {nb bm rb H K : Nat} {w wx wz : World} {L : List Deed}
/-- A new seal at both. -/
theorem Rd.sealed_ {w2 w3 : World} {d : Deed} (h : Rd R nb bm rb w H K L wx) (ho1 : ¬ R nb) (ho2 : ¬ R bm) (hnew : ∀ k, w.heap.size ≤ k → R k) (hn : Nt w2 nb bm (sealed L d)) (ht2 : Turn (fun k => k = bm) wx w2)
    (hr : Rf (fun k => (R k ∧ ¬ (H ≤ k ∧ k < K)) ∨ w2.heap.size ≤ k) w3 rb (sealed L d)) (ht3 : Turn (fun k => R k ∧ ¬ (H ≤ k ∧ k < K)) w2 w3) : Rd R nb bm rb w H K (sealed L d) w3 := by
  refine ⟨hn.kept ht3 (fun hz => ho1 hz.1) (fun hz => ho2 hz.1), hr.mono ?_, sealed_nodup h.nd d, (h.tn.trans (ht2.mono (fun k _ hk => Or.inr hk))).trans (ht3.mono (fun k _ hk => Or.inl hk.1)), Nat.le_trans h.sz (Nat.le_trans ht2.size ht3.size)⟩
  intro k _ hk
  rcases hk with hk | hk
  · exact hk
  · have h1 := h.sz
    have h2 := ht2.size
    have h3 := h.tn.size
    exact ⟨hnew k (by omega), fun h => by omega⟩
/-- Only the round's own blocks have changed. -/
theorem Rd.far (h : Rd R nb bm rb w H K L wx) (hb : nb < H ∧ bm < H) (hnew : ∀ k, H ≤ k → R k) {g : Nat} (hg : H ≤ g ∧ g < K) (ht : Turn (fun k => k = g) wx wz) : Rd R nb bm rb w H K L wz :=
  ⟨h.nt.kept ht (fun e => by omega) (fun e => by omega), h.rf.kept ht (fun k _ hk e => hk.2 (by subst e; exact hg)), h.nd, h.tn.trans (ht.mono (fun k _ hk => Or.inl (hnew k (by omega)))), Nat.le_trans h.sz ht.size⟩
theorem Rd.drewN (h : Rd R nb bm rb w H K L wx) (n : Nat) : Rd R nb bm rb w H K L (wx.drewN n) := ⟨h.nt.drewN n, h.rf.drewN n, h.nd, h.tn.drewN n, h.sz⟩
end

set_option maxHeartbeats 4000000 in
set_option maxRecDepth 100000 in
theorem play_any {R : Nat → Prop} {w : World} {nb bm rb : Nat} {L : List Deed} {A : Option Addr} {c B : Nat} {l : List Ac} (hN : Nt w nb bm L) (hR : Rf R w rb L) (hnd : L.Nodup) (hlen : L.length ≤ 1000) (ho : Out R nb bm w B) (ha : ActsIn w B A l c) :
    Calls Try.prog 8 #[.pointer (some ⟨nb, 0, none⟩), .pointer (some ⟨rb, 0, none⟩), .slice A l.length c] w fun e w' => e = .returned (.bool true) ∧ ∃ L', Nt w' nb bm L' ∧ Rf R w' rb L' ∧ L'.Nodup ∧ L'.length ≤ L.length + 80 ∧ Turn (fun k => R k ∨ k = bm) w w' := by
  have HN := Lib.hid hN
  have HR := Lib.hid hR
  have HD := Lib.hid hnd
  have HO := Lib.hid ho
  have HA := Lib.hid ha
  have HM := Lib.hid ha.len
  have HLen := Lib.hid hlen
  clear hN hR hnd ho ha hlen
  go_enter Try.func8, Try.ntmps8
  go_wp2_with fail
  go_loopw [7] (fun x wr => ∃ (k : Nat) (L' : List Deed), x = .int .i64 k ∧ k ≤ l.length ∧ k ≤ 80 ∧ Hid (L'.length ≤ L.length + k) ∧ Hid (Nt wr nb bm L') ∧ Hid (Rf R wr rb L') ∧ Hid L'.Nodup ∧ Hid (Turn (fun k => R k ∨ k = bm) w wr)) (fun x _ => 80 - (intOf x).toNat)
  case atStart => exact ⟨0, L, rfl, Nat.zero_le _, Nat.zero_le _, Nat.le_refl _, HN.out, HR.out, HD.out, Turn.refl _ _⟩
  case round =>
    obtain ⟨k, L', rfl, hk, hk80, HL, HNt, HRf, HNd, HTn⟩ := hrel
    by_cases hlt : k < l.length ∧ k < 80
    · obtain ⟨hlt, hlt2⟩ := hlt
      obtain ⟨ad, rfl, _, d0, d1, d2, d3⟩ := act_at (has_zone HA.out.has HTn.out (fun k hk hz => hz.elim (HO.out.low k hk).1 (HO.out.low k hk).2.1)) hlt
      have HX := Lib.hid (HA.out.fits _ (List.getElem_mem hlt))
      obtain ⟨x, hx⟩ : ∃ x, l[k] = x := ⟨_, rfl⟩
      rw [hx] at d0 d1 d2 d3 HX
      have HXm := Lib.hid (show x ∈ l from hx ▸ List.getElem_mem hlt)
      clear hx
      obtain ⟨_, _, _, _, _, hxb, hxc⟩ := HX.out
      obtain ⟨n1, hn1⟩ : ∃ n1, (x.b.take 60).length = n1 := ⟨_, rfl⟩
      have HN1 := Lib.hid hn1
      go_upto_if 33 with fail
      go_cut [] from 16 to 125 (fun wx => Blk wx wr.heap.size 36 #[.int .i64 x.dd, .int .i64 x.pt, .int .i64 x.kk, .slice x.A n1 x.c] ∧ Below wr.heap.size wr wx)
      case first => as_aux_lemma =>
        have hB0 := Blk.new wr 36 #[.int .i64 x.dd, .int .i64 x.pt, .int .i64 x.kk, .slice x.A x.b.length x.c]
        by_cases h60 : 60 < x.b.length
        · obtain ⟨ax, _, hax, _⟩ := hxb.byte (k := 0) (by omega)
          have hn60 : n1 = 60 := by rw [← hn1, List.length_take]; omega
          rw [hax] at hB0 ⊢
          have hc60 : 60 ≤ x.c := by omega
          have HAX := Lib.hid hax
          have H60 := Lib.hid hn60
          clear hn1 hn60 hxb hax
          go_wp2_with fail
          go_meet
          rw [H60.out, HAX.out]
          exact ⟨Blk.new _ _ _, (Below.refl _ _).alloc (Nat.le_refl _) _⟩
        · have hn60 : n1 = x.b.length := by rw [← hn1, List.length_take]; omega
          have H60 := Lib.hid hn60
          clear hn1 hn60 hxb
          go_wp2_with fail
          go_meet
          rw [H60.out]
          exact ⟨hB0, (Below.refl _ _).alloc (Nat.le_refl _) _⟩
      case rest => as_aux_lemma =>
        obtain ⟨hblk, hbc⟩ := hcut
        obtain ⟨fdd, fpt, fkk, hxm, hxn, hxb, hxc⟩ := HX.out
        have hB60 := hxb.take 60
        have HBB := Lib.hid (show ∀ k, k < B → ¬ R k from fun k hk => (HO.out.low k hk).1)
        have HTc := Lib.hid (show Turn (fun k => R k ∨ k = bm) w wc from HTn.out.trans (Turn.of_below hbc))
        have HBc := Lib.hid (show Has wc B x.A (u8s (x.b.take 60)) from has_zone hB60 HTc.out (fun k hk hz => hz.elim (HO.out.low k hk).1 (HO.out.low k hk).2.1))
        have hlen60 : (x.b.take 60).length ≤ 1048576 := by rw [List.length_take]; omega
        have hc0 := hblk.cell 0
        have hc3 := hblk.cell 3
        simp only [List.getElem?_toArray, List.getElem?_cons_zero, List.getElem?_cons_succ] at hc0 hc3
        have HBlk := Lib.hid hblk
        have HBelow := Lib.hid hbc
        have HDD := Lib.hid fdd
        have HPT := Lib.hid fpt
        have HKK := Lib.hid fkk
        have HXN := Lib.hid hxn
        have HL60 := Lib.hid hlen60
        clear hblk hbc hB60 fdd fpt fkk hxm hxn hxb hxc hlen60 d0 d1 d2 d3 hn1
        go_wp2_with fail
        refine (copy_row x.A x.c n1 B (x.b.take 60) _ HN1.out HL60.out HBc.out HXN.out).mono ?_
        rintro e wy ⟨Ab, cb, rfl, hob, hby⟩
        obtain ⟨H, hH⟩ : ∃ H, wr.heap.size = H := ⟨_, rfl⟩
        rw [hH] at HBlk HBelow hc0 hc3 ⊢
        have hsz1 := HBelow.out.size
        have hsz2 := hby.size
        have HRd := Lib.hid (show Rd R nb bm rb w H wy.heap.size L' wy from
          ⟨(HNt.out.below (hH ▸ HBelow.out)).below hby,
            ((HRf.out.mono (R' := fun k => R k ∧ ¬ (H ≤ k ∧ k < wy.heap.size)) (fun k hk hr => ⟨hr, fun h => absurd h.1 (by omega)⟩)).below (hH ▸ HBelow.out)).below hby,
            HNd.out, HTc.out.trans (Turn.of_below hby), Nat.le_refl _⟩)
        have HBlkY := Lib.hid (HBlk.out.below hby HBlk.out.lt)
        have HOb := Lib.hid hob
        have HGo := Lib.hid (show ∀ g, (Value.slice Ab n1 cb).ownBlock = some g → H < g ∧ g < wy.heap.size from fun g hg => ⟨Nat.lt_of_lt_of_le HBlk.out.lt (hob.lt g hg).1, (hob.lt g hg).2⟩)
        have HWH := Lib.hid (show w.heap.size ≤ H from hH ▸ HTn.out.size)
        have HbmH := Lib.hid (show nb < H ∧ bm < H from hH ▸ HNt.out.lt)
        clear hob hby hsz1 hsz2 hc0 hc3
        have hc0 := HBlkY.out.cell 0
        simp only [List.getElem?_toArray, List.getElem?_cons_zero] at hc0
        go_wp2_with fail
        obtain ⟨v, hv⟩ : ∃ v, x.dd % 4 = v := ⟨_, rfl⟩
        have hv0 : 0 ≤ v ∧ v < 4 := by omega
        have HW := Lib.hid (fun w => within_any x.dd 4 (by omega) (by omega) (wf_i64 HDD.out).1 (wf_i64 HDD.out).2 w)
        rw [hv] at HW
        clear hv hc0
        refine (HW.out _).mono ?_
        rintro e wv ⟨rfl, rfl⟩
        obtain ⟨K, hK⟩ : ∃ K, wy.heap.size = K := ⟨_, rfl⟩
        rw [hK] at HRd HGo
        have HKs := Lib.hid (show wy.heap.size ≤ K from Nat.le_of_eq hK)
        clear hK HBelow HBlk HTc HBc HRf HNt HNd HTn hH
        go_upto_block 2 with fail
        go_cut [10, 11, 12, 13, 14, 15] from 16 to 125 (fun s10 s11 s12 s13 s14 s15 wx => s10 = .bool true ∧ ∃ L2, Rd R nb bm rb w H K L2 wx ∧ L2.length ≤ L'.length + 1)
        case first => as_aux_lemma =>
          have HOw := Lib.hid (Has.own HOb.out)
          have HPk := Lib.hid (show n1 ≤ maxLen from by rw [← HN1.out]; exact Nat.le_trans HL60.out (by unfold maxLen; omega))
          have HLk := Lib.hid (show L'.length ≤ 1000000 from Nat.le_trans HL.out (Nat.le_trans (Nat.add_le_add HLen.out hk80) (by omega)))
          have HN60 := Lib.hid (show n1 ≤ 60 by rw [← HN1.out, List.length_take]; omega)
          have HNew := Lib.hid (show ∀ k, H ≤ k → R k from fun k hk => HO.out.new k (Nat.le_trans HWH.out hk))
          have HHK := Lib.hid (show H < K from Nat.lt_of_lt_of_le HBlkY.out.lt HKs.out)
          have HBx := Lib.hid (show Has wy B x.A (u8s (x.b.take 60)) from has_zone ((HA.out.fits _ (show x ∈ l from HXm.out)).2.2.2.2.2.1.take 60) HRd.out.tn (fun k hk hz => hz.elim (HO.out.low k hk).1 (HO.out.low k hk).2.1))
          rcases (show v = 0 ∨ v = 1 ∨ v = 2 ∨ v = 3 by omega) with rfl | rfl | rfl | rfl
          · as_aux_lemma =>
            go_wp2_with fail
            obtain ⟨d, hd⟩ : ∃ d, ((x.pt, strOfNums (x.b.take 60)) : Deed) = d := ⟨_, rfl⟩
            have HS1 := Lib.hid (seal_any (show Nt wy.drew nb bm L' from HRd.out.nt.drewN 1) HLk.out HPT.out (show Has wy.drew wy.heap.size Ab (u8s (x.b.take 60)) from HOw.out.drew) HN1.out HPk.out (c := cb))
            have HS2 := Lib.hid (fun (w2 : World) (hr : Rf (fun k => R k ∧ ¬ (H ≤ k ∧ k < K)) w2 rb L') (hh : Has w2 B x.A (u8s (x.b.take 60))) => rseal_any hr HLk.out (p := x.pt) (c := x.c) hh HN1.out (fun k hk hz => HBB.out k hk hz.1))
            rw [hd] at HS1 HS2
            have HRy := Lib.hid (HRd.out.drewN 1)
            have HBy := Lib.hid (HBlkY.out.drewN 1)
            have hq1 := HBlkY.out.cell 1
            have hq3 := HBlkY.out.cell 3
            simp only [List.getElem?_toArray, List.getElem?_cons_zero, List.getElem?_cons_succ] at hq1 hq3
            go_region_held3 (fun w' => w'.cell? ⟨H, 1, none⟩ = some (.int .i64 x.pt) ∧ w'.cell? ⟨H, 3, none⟩ = some (.slice x.A n1 x.c)) (first | exact ⟨hq1, hq3⟩ | exact ⟨hr1, hr3⟩ | exact ⟨hs1, hs3⟩ | go_keep)
              (first | (go_at_call 10; refine HS1.out.mono ?_; rintro e w2 ⟨rfl, hN2, ht2⟩; have hB2 : Blk w2 H 36 #[.int .i64 x.dd, .int .i64 x.pt, .int .i64 x.kk, .slice x.A n1 x.c] := ht2.blk HBy.out (fun e => Nat.ne_of_lt HbmH.out.2 e.symm); have hr1 := hB2.cell 1; have hr3 := hB2.cell 3; simp only [List.getElem?_toArray, List.getElem?_cons_zero, List.getElem?_cons_succ] at hr1 hr3)
                     | (go_at_call 18; refine (HS2.out w2 (HRy.out.rf.kept ht2 (fun k _ hk e => HO.out.bmn (e ▸ hk.1))) (has_zone (show Has wy.drew B x.A (u8s (x.b.take 60)) from HBx.out.drew) ht2 (fun k hk e => (HO.out.low k hk).2.1 e))).mono ?_; rintro e w3 ⟨rfl, hR3, ht3⟩; have hB3 : Blk w3 H 36 #[.int .i64 x.dd, .int .i64 x.pt, .int .i64 x.kk, .slice x.A n1 x.c] := ht3.blk hB2 (fun e => e.2 ⟨Nat.le_refl _, HHK.out⟩); have hs1 := hB3.cell 1; have hs3 := hB3.cell 3; simp only [List.getElem?_toArray, List.getElem?_cons_zero, List.getElem?_cons_succ] at hs1 hs3))
            have HRd2 := Lib.hid (HRy.out.sealed_ HO.out.nbn HO.out.bmn HO.out.new hN2 ht2 hR3 ht3)
            have HOb3 := Lib.hid (show w3.ownsRow 0 5 1 (.slice Ab n1 cb) n1 (u8s (x.b.take 60)) from ht3.own (ht2.own (own_low (show wy.drew.ownsRow wc.heap.size 5 1 (.slice Ab n1 cb) n1 (u8s (x.b.take 60)) from HOb.out) (Nat.zero_le _)) (fun g hg e => by have := HGo.out g hg; have := HbmH.out; omega)) (fun g hg e => e.2 ⟨Nat.le_of_lt (HGo.out g hg).1, (HGo.out g hg).2⟩))
            have HLd := Lib.hid (sealed_len L' d)
            clear hN2 ht2 hR3 ht3 hB2 hB3 hr1 hr3 hs1 hs3 hq1 hq3 hd HS1 HS2 HRy HBy HRd HOb
            go_wp2_with fail
            go_loopw [86] (fun y wl => ∃ (j : Nat) (xs : List Int), y = .int .i64 j ∧ j ≤ n1 ∧ Hid (xs.length = n1) ∧ Hid (Rd R nb bm rb w H K (sealed L' d) wl) ∧ Hid (wl.ownsRow 0 5 1 (.slice Ab n1 cb) n1 (u8s xs))) (fun y _ => n1 - (intOf y).toNat)
            case atStart => exact ⟨0, x.b.take 60, rfl, Nat.zero_le _, HN1.out, HRd2.out, HOb3.out⟩
            case round =>
              obtain ⟨j, xs, rfl, hj, HXl, HRl, HOl⟩ := hrel
              by_cases hjl : j < n1
              · obtain ⟨g, cap, hv, _, _⟩ := HOl.out.form (by omega)
                injection hv with hv1 hv2 hv3
                subst hv1
                subst hv3
                have HG := Lib.hid (HGo.out g rfl)
                have hj2 : j < xs.length := by rw [HXl.out]; exact hjl
                have hcell := HOl.out.cellAt j (by omega)
                rw [u8s_get xs j hj2] at hcell
                obtain ⟨z, hz⟩ : ∃ z, xs.getD j 0 = z := ⟨_, rfl⟩
                rw [hz] at hcell
                have hfz := HOl.out.frozenAt j
                have HSt := Lib.hid (fun (z' : Int) => show (wr.setCell ⟨g, j, none⟩ (.int .u8 z')).ownsRow 0 5 1 (.slice (some ⟨g, 0, none⟩) n1 cb) n1 (u8s (xs.set j z')) from by rw [u8s_set]; exact (HOl.out.stored j (.int .u8 z')).1)
                have h60 := HN60.out
                have HTu := Lib.hid (fun (u : Value) => (show Turn (fun k => k = g) wr (wr.setCell ⟨g, j, none⟩ u) from (Turn.refl _ wr).set_ _ u rfl))
                clear hz hj2
                go_wp2_with fail
                go_roundw
                case rel => exact ⟨j + 1, _, by go_num, by omega, by rw [List.length_set]; exact HXl.out, HRl.out.far HbmH.out HNew.out ⟨Nat.le_of_lt HG.out.1, HG.out.2⟩ (HTu.out _), HSt.out _⟩
                case measure => simp [intOf]; omega
              · have hje : j = n1 := by omega
                go_wp2_with fail
                go_meet
                exact ⟨by simp, _, HRl.out, HLd.out⟩
          · as_aux_lemma =>
            go_wp2_with fail
            obtain ⟨d, hd⟩ : ∃ d, ((x.pt, strOfNums (x.b.take 60)) : Deed) = d := ⟨_, rfl⟩
            have HS1 := Lib.hid (seal_any (show Nt wy.drew nb bm L' from HRd.out.nt.drewN 1) HLk.out HPT.out (show Has wy.drew wy.heap.size Ab (u8s (x.b.take 60)) from HOw.out.drew) HN1.out HPk.out (c := cb))
            have HS2 := Lib.hid (fun (w2 : World) (hr : Rf (fun k => R k ∧ ¬ (H ≤ k ∧ k < K)) w2 rb L') (hh : Has w2 B x.A (u8s (x.b.take 60))) => rseal_any hr HLk.out (p := x.pt) (c := x.c) hh HN1.out (fun k hk hz => HBB.out k hk hz.1))
            rw [hd] at HS1 HS2
            have HRy := Lib.hid (HRd.out.drewN 1)
            have HBy := Lib.hid (HBlkY.out.drewN 1)
            have hq1 := HBlkY.out.cell 1
            have hq3 := HBlkY.out.cell 3
            simp only [List.getElem?_toArray, List.getElem?_cons_zero, List.getElem?_cons_succ] at hq1 hq3
            go_region_held3 (fun w' => w'.cell? ⟨H, 1, none⟩ = some (.int .i64 x.pt) ∧ w'.cell? ⟨H, 3, none⟩ = some (.slice x.A n1 x.c)) (first | exact ⟨hq1, hq3⟩ | exact ⟨hr1, hr3⟩ | exact ⟨hs1, hs3⟩ | go_keep)
              (first | (go_at_call 10; refine HS1.out.mono ?_; rintro e w2 ⟨rfl, hN2, ht2⟩; have hB2 : Blk w2 H 36 #[.int .i64 x.dd, .int .i64 x.pt, .int .i64 x.kk, .slice x.A n1 x.c] := ht2.blk HBy.out (fun e => Nat.ne_of_lt HbmH.out.2 e.symm); have hr1 := hB2.cell 1; have hr3 := hB2.cell 3; simp only [List.getElem?_toArray, List.getElem?_cons_zero, List.getElem?_cons_succ] at hr1 hr3)
                     | (go_at_call 18; refine (HS2.out w2 (HRy.out.rf.kept ht2 (fun k _ hk e => HO.out.bmn (e ▸ hk.1))) (has_zone (show Has wy.drew B x.A (u8s (x.b.take 60)) from HBx.out.drew) ht2 (fun k hk e => (HO.out.low k hk).2.1 e))).mono ?_; rintro e w3 ⟨rfl, hR3, ht3⟩; have hB3 : Blk w3 H 36 #[.int .i64 x.dd, .int .i64 x.pt, .int .i64 x.kk, .slice x.A n1 x.c] := ht3.blk hB2 (fun e => e.2 ⟨Nat.le_refl _, HHK.out⟩); have hs1 := hB3.cell 1; have hs3 := hB3.cell 3; simp only [List.getElem?_toArray, List.getElem?_cons_zero, List.getElem?_cons_succ] at hs1 hs3))
            have HRd2 := Lib.hid (HRy.out.sealed_ HO.out.nbn HO.out.bmn HO.out.new hN2 ht2 hR3 ht3)
            have HOb3 := Lib.hid (show w3.ownsRow 0 5 1 (.slice Ab n1 cb) n1 (u8s (x.b.take 60)) from ht3.own (ht2.own (own_low (show wy.drew.ownsRow wc.heap.size 5 1 (.slice Ab n1 cb) n1 (u8s (x.b.take 60)) from HOb.out) (Nat.zero_le _)) (fun g hg e => by have := HGo.out g hg; have := HbmH.out; omega)) (fun g hg e => e.2 ⟨Nat.le_of_lt (HGo.out g hg).1, (HGo.out g hg).2⟩))
            have HLd := Lib.hid (sealed_len L' d)
            clear hN2 ht2 hR3 ht3 hB2 hB3 hr1 hr3 hs1 hs3 hq1 hq3 hd HS1 HS2 HRy HBy HRd HOb
            go_wp2_with fail
            go_loopw [86] (fun y wl => ∃ (j : Nat) (xs : List Int), y = .int .i64 j ∧ j ≤ n1 ∧ Hid (xs.length = n1) ∧ Hid (Rd R nb bm rb w H K (sealed L' d) wl) ∧ Hid (wl.ownsRow 0 5 1 (.slice Ab n1 cb) n1 (u8s xs))) (fun y _ => n1 - (intOf y).toNat)
            case atStart => exact ⟨0, x.b.take 60, rfl, Nat.zero_le _, HN1.out, HRd2.out, HOb3.out⟩
            case round =>
              obtain ⟨j, xs, rfl, hj, HXl, HRl, HOl⟩ := hrel
              by_cases hjl : j < n1
              · obtain ⟨g, cap, hv, _, _⟩ := HOl.out.form (by omega)
                injection hv with hv1 hv2 hv3
                subst hv1
                subst hv3
                have HG := Lib.hid (HGo.out g rfl)
                have hj2 : j < xs.length := by rw [HXl.out]; exact hjl
                have hcell := HOl.out.cellAt j (by omega)
                rw [u8s_get xs j hj2] at hcell
                obtain ⟨z, hz⟩ : ∃ z, xs.getD j 0 = z := ⟨_, rfl⟩
                rw [hz] at hcell
                have hfz := HOl.out.frozenAt j
                have HSt := Lib.hid (fun (z' : Int) => show (wr.setCell ⟨g, j, none⟩ (.int .u8 z')).ownsRow 0 5 1 (.slice (some ⟨g, 0, none⟩) n1 cb) n1 (u8s (xs.set j z')) from by rw [u8s_set]; exact (HOl.out.stored j (.int .u8 z')).1)
                have h60 := HN60.out
                have HTu := Lib.hid (fun (u : Value) => (show Turn (fun k => k = g) wr (wr.setCell ⟨g, j, none⟩ u) from (Turn.refl _ wr).set_ _ u rfl))
                clear hz hj2
                go_wp2_with fail
                go_roundw
                case rel => exact ⟨j + 1, _, by go_num, by omega, by rw [List.length_set]; exact HXl.out, HRl.out.far HbmH.out HNew.out ⟨Nat.le_of_lt HG.out.1, HG.out.2⟩ (HTu.out _), HSt.out _⟩
                case measure => simp [intOf]; omega
              · have hje : j = n1 := by omega
                go_wp2_with fail
                go_meet
                exact ⟨by simp, _, HRl.out, HLd.out⟩
          · as_aux_lemma =>
            go_wp2_with fail
            obtain ⟨s, hs⟩ : ∃ s, strOfNums (x.b.take 60) = s := ⟨_, rfl⟩
            have HCa := Lib.hid (fun q => check_any (HRd.out.nt.drewN q) (c := cb) (k := x.kk) HPT.out (HOw.out.drewN q) HN1.out HPk.out)
            have HCb := Lib.hid (fun q => rcheck_any (HRd.out.rf.drewN q) HRd.out.nd (p := x.pt) (c := x.c) HKK.out (HBx.out.drewN q) HN1.out)
            rw [hs] at HCa HCb
            obtain ⟨r, hr⟩ : ∃ r, checkS L' (x.pt, s) x.kk = r := ⟨_, rfl⟩
            rw [hr] at HCa HCb
            have hq1 := HBlkY.out.cell 1
            have hq2 := HBlkY.out.cell 2
            have hq3 := HBlkY.out.cell 3
            simp only [List.getElem?_toArray, List.getElem?_cons_zero, List.getElem?_cons_succ] at hq1 hq2 hq3
            clear hs hr
            go_quiet ((first | (go_at_call 11; exact Calls.quiet_of (HCa.out _)) | (go_at_call 19; exact Calls.quiet_of (HCb.out _))))
            go_wp2_with fail
            go_meet
            exact ⟨by simp, L', HRd.out.drewN _, Nat.le_succ _⟩
          · as_aux_lemma =>
            obtain ⟨s, hs⟩ : ∃ s, strOfNums (x.b.take 60) = s := ⟨_, rfl⟩
            have HCa := Lib.hid (find_any HRd.out.nt (c := cb) HPT.out HOw.out HN1.out HPk.out)
            have HCb := Lib.hid (fun q => rfind_any (HRd.out.rf.drewN q) HLk.out (p := x.pt) (c := x.c) (HBx.out.drewN q) HN1.out)
            rw [hs] at HCa HCb
            obtain ⟨r, hr⟩ : ∃ r, decide ((x.pt, s) ∈ L') = r := ⟨_, rfl⟩
            obtain ⟨f, hf⟩ : ∃ f, findS L' (x.pt, s) = f := ⟨_, rfl⟩
            rw [hr, hf] at HCa HCb
            have hq1 := HBlkY.out.cell 1
            have hq3 := HBlkY.out.cell 3
            simp only [List.getElem?_toArray, List.getElem?_cons_zero, List.getElem?_cons_succ] at hq1 hq3
            clear hs hr hf
            go_wp2_with fail
            refine HCa.out.mono ?_
            rintro e w2 ⟨rfl, m, rfl⟩
            go_wp2_with fail
            refine (HCb.out m).mono ?_
            rintro e w3 ⟨rfl, rfl⟩
            go_wp2_with fail
            go_meet
            exact ⟨by simp, L', HRd.out.drewN _, Nat.le_succ _⟩
        case rest => as_aux_lemma =>
          obtain ⟨rfl, L2, hRd, hL2⟩ := hcut
          obtain ⟨v1, v2, hb, ho1, _, _, _⟩ := hRd.rf.ex
          obtain ⟨A1, c1, rfl, _, _⟩ := own_slice ho1
          have hr0 := hb.cell 0
          simp only [List.getElem?_toArray, List.getElem?_cons_zero] at hr0
          have HLq := Lib.hid (fun q => (len_any (hRd.nt.drewN q)).mono (R' := fun e w' => e = .returned (.int .i64 (L2.length : Int)) ∧ w' = wc.drewN q) (fun e w' he => ⟨he.1, he.2.symm⟩))
          have HFin := Lib.hid hRd
          have HL2 := Lib.hid (show L2.length ≤ L.length + (k + 1) from Nat.le_trans hL2 (Nat.succ_le_succ HL.out))
          clear hRd hL2 hb ho1 HBlkY HOb HGo
          go_wp2_with fail
          go_quiet ((go_at_call 12; exact Calls.quiet_of_same (HLq.out _)))
          go_wp2_with fail
          go_roundw
          case rel => exact ⟨k + 1, L2, by go_num, by omega, by omega, HL2.out, HFin.out.nt.drewN _, (HFin.out.rf.drewN _).mono (fun k _ hk => hk.1), HFin.out.nd, HFin.out.tn.drewN _⟩
          case measure => simp [intOf]; omega
    · have hor : (k < l.length ∧ 80 ≤ k) ∨ l.length ≤ k := by omega
      clear hlt
      have HF := Lib.hid (show L'.length ≤ L.length + 80 from Nat.le_trans HL.out (Nat.add_le_add_left hk80 _))
      rcases hor with ⟨hq, hq2⟩ | hq
      all_goals
        go_wp2_with fail
        go_ret
        exact ⟨rfl, L', HNt.out, HRf.out, HNd.out, HF.out, HTn.out⟩
end Go.Proofs.Ytalniijnlolbkaa
