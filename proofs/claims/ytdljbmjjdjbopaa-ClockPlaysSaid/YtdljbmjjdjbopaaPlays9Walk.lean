/- The walk of ClockPlays. -/
import Derived.Test.YtdljbmjjdjbopaaDo9T
import Derived.Test.YtdljbmjjdjbopaaDo9S
import Derived.Test.YtdljbmjjdjbopaaDo9D
import Derived.Test.YtdljbmjjdjbopaaDo9L
import Derived.Test.YtdljbmjjdjbopaaDo9U
import Derived.Test.YtdljbmjjdjbopaaActs9
import Derived.Test.YtdljbmjjdjbopaaClockClone
namespace Go.Proofs.Ytdljbmjjdjbopaa
open Go.RowKit Go.Maps Go.Sort
set_option linter.unusedVariables false

theorem do9_any {w0 w : World} {cb bm pb N : Nat} {now : Int} {S : Ts} {L : List (Int × Int)} {dd id n : Int} (h : Jp w0 cb bm pb now N S L w) (hN : N ≤ 900000) (hn0 : 0 ≤ now) (hn1 : now ≤ 900000) (hd : fit dd) (hi : fit id) (hn : fit n) :
    Calls Try.prog 17 #[.pointer (some ⟨cb, 0, none⟩), .pointer (some ⟨pb, 0, none⟩), .agg #[.int .i64 dd, .int .i64 id, .int .i64 n]] w fun e w' => e = .returned (.bool true) ∧ Did w0 cb bm pb now N w w' := by
  have h0 := Int.emod_nonneg dd (show (8 : Int) ≠ 0 by omega)
  have h8 := Int.emod_lt_of_pos dd (show (0 : Int) < 8 by omega)
  obtain ⟨v, hv⟩ : ∃ v, dd % 8 = v := ⟨_, rfl⟩
  rw [hv] at h0 h8
  by_cases c1 : v ≤ 2
  · exact do9_T h hN hn0 hn1 hd hi hn hv (by omega)
  by_cases c2 : v ≤ 4
  · exact do9_S h hN hn0 hn1 hd hi hn hv (by omega)
  by_cases c3 : v = 5
  · exact do9_D h hN hn0 hn1 hd hi hn hv c3
  by_cases c4 : v = 6
  · exact do9_L h hN hn0 hn1 hd hi hn hv c4
  · exact do9_U h hN hn0 hn1 hd hi hn hv (by omega)
/-- What another clock's acts leave of the two. -/
theorem Jp.apart {w0 wr w2 : World} {cb bm pb N db dm qb B : Nat} {now : Int} {S : Ts} {L : List (Int × Int)} (h : Jp w0 cb bm pb now N S L wr) (ht : Turn (fun k => k = db ∨ k = dm ∨ k = qb) wr w2)
    (h1 : cb < B) (h2 : bm < B) (h3 : pb < B) (g1 : B ≤ db) (g2 : B ≤ dm) (g3 : B ≤ qb) (hb : Below w0.heap.size w0 w2)
    (n1 : NotRow wr db) (n2 : NotRow wr dm) (n3 : NotRow wr qb) : Jp w0 cb bm pb now N S L w2 := by
  obtain ⟨v1, v2, hpb, ho1, ho2⟩ := h.pl.ex
  refine ⟨⟨h.cs.ck.kept ht (by omega) (by omega), hb, h.cs.b0, h.cs.b1⟩, ⟨v1, v2, ht.blk hpb (by omega), ht.own ho1 (fun g hg e => ?_), ht.own ho2 (fun g hg e => ?_)⟩, h.tl, h.p0, h.len⟩
  · rcases e with e | e | e
    · exact n1 _ _ _ _ ho1 (by rw [hg, e])
    · exact n2 _ _ _ _ ho1 (by rw [hg, e])
    · exact n3 _ _ _ _ ho1 (by rw [hg, e])
  · rcases e with e | e | e
    · exact n1 _ _ _ _ ho2 (by rw [hg, e])
    · exact n2 _ _ _ _ ho2 (by rw [hg, e])
    · exact n3 _ _ _ _ ho2 (by rw [hg, e])
/-- So many acts have been done. -/
structure Ru (w0 : World) (cb bm pb : Nat) (k : Nat) (wr : World) : Prop where
  ex : ∃ (now : Int) (N : Nat) (S : Ts) (L : List (Int × Int)), Jp w0 cb bm pb now N S L wr ∧ 0 ≤ now ∧ now ≤ (k : Int) ∧ N ≤ k
theorem Ru.act {w0 wr : World} {cb bm pb k : Nat} (h : Ru w0 cb bm pb k wr) (hk : k ≤ 1000) {dd id n : Int} (hd : fit dd) (hi : fit id) (hn : fit n) :
    Calls Try.prog 17 #[.pointer (some ⟨cb, 0, none⟩), .pointer (some ⟨pb, 0, none⟩), .agg #[.int .i64 dd, .int .i64 id, .int .i64 n]] wr fun e w' => e = .returned (.bool true) ∧ Ru w0 cb bm pb (k + 1) w' ∧ Turn (fun k => k = cb ∨ k = bm ∨ k = pb) wr w' := by
  obtain ⟨now, N, S, L, hj, h0, h1, h2⟩ := h.ex
  refine (do9_any hj (by omega) h0 (by omega) hd hi hn).mono fun _ _ ⟨he, hdid⟩ => ?_
  obtain ⟨now2, N2, S2, L2, hj2, g0, g1, g2⟩ := hdid.ex
  exact ⟨he, ⟨now2, N2, S2, L2, hj2, by omega, by omega, by omega⟩, hdid.turn⟩
theorem Ru.low {w0 wr : World} {cb bm pb k : Nat} (h : Ru w0 cb bm pb k wr) : Below w0.heap.size w0 wr := h.ex.elim fun _ h => h.elim fun _ h => h.elim fun _ h => h.elim fun _ h => h.1.cs.low
theorem act_come {w wr : World} {A : Option Addr} {c k : Nat} {l : List Ac} (h : IsActs w A l c) (hb : Below w.heap.size w wr) (hk : k < l.length) :
    ∃ ad, A = some ad ∧ wr.cell? (ad.add (k * 3)) = some (.int .i64 l[k].dd) ∧ wr.cell? ⟨(ad.add (k * 3)).block, (ad.add (k * 3)).off + 1, none⟩ = some (.int .i64 l[k].pt) ∧
      wr.cell? ⟨(ad.add (k * 3)).block, (ad.add (k * 3)).off + 2, none⟩ = some (.int .i64 l[k].kk) := by
  obtain ⟨ad, hA, _, h1, h2, h3⟩ := act_at (h.has.below hb (Nat.le_refl _)) hk
  exact ⟨ad, hA, h1, h2, h3⟩
set_option maxHeartbeats 8000000 in
set_option maxRecDepth 100000 in
theorem clockPlays_walk (a0 : Option Addr) (c0 : Nat) (z0 : List Ac) (a1 : Option Addr) (c1 : Nat) (z1 : List Ac) (w : World) (w0 : IsActs w a0 z0 c0) (w1 : IsActs w a1 z1 c1) :
    Calls Try.prog 5 #[.slice a0 z0.length c0, .slice a1 z1.length c1] w fun e w' => e = .returned (.bool true) ∧ Below w.heap.size w w' := by
  have HA := Lib.hid w0
  have HB := Lib.hid w1
  clear w0 w1
  go_enter Try.func5, Try.ntmps5
  go_wp2_with fail
  refine (cs_new w _ (Below.refl _ _)).mono ?_
  rintro e w1 ⟨cb, bm, rfl, h1⟩
  have H1 := Lib.hid h1
  clear h1
  go_wp2_with fail
  have hbl : Below w1.heap.size w1 (w1.alloc (.cells #[.int .i64 0, .slice none 0 0, .slice none 0 0] 40)) := (Below.refl _ _).alloc (Nat.le_refl _) _
  have HR0 := Lib.hid (show Ru w cb bm w1.heap.size 0 (w1.alloc (.cells #[.int .i64 0, .slice none 0 0, .slice none 0 0] 40)) from
    ⟨0, 0, Ts.new, [], ⟨H1.out.below hbl, ⟨_, _, Blk.new w1 _ _, World.ownsRow_nil _ _ _ _, World.ownsRow_nil _ _ _ _⟩, Tl.new, H1.out.low.size, Nat.le_refl _⟩, by omega, by omega, Nat.le_refl _⟩)
  obtain ⟨pb, hpb⟩ : ∃ pb, w1.heap.size = pb := ⟨_, rfl⟩
  rw [hpb] at HR0 ⊢
  clear hpb hbl
  go_loopw [7] (fun x wr => ∃ k : Nat, x = .int .i64 (k : Int) ∧ k ≤ z0.length ∧ k ≤ 100 ∧ Hid (Ru w cb bm pb k wr)) (fun x _ => 100 - (intOf x).toNat)
  case atStart => exact ⟨0, rfl, Nat.zero_le _, Nat.zero_le _, HR0⟩
  case round =>
    obtain ⟨k, rfl, hk, hk100, HK⟩ := hrel
    by_cases hlt : k < z0.length ∧ k < 100
    · obtain ⟨hlt, hlt2⟩ := hlt
      obtain ⟨ad, rfl, d0, d1, d2⟩ := act_come HA.out HK.out.low hlt
      have HX := Lib.hid (HA.out.came _ (List.getElem_mem hlt))
      obtain ⟨x, hx⟩ : ∃ x, z0[k] = x := ⟨_, rfl⟩
      rw [hx] at d0 d1 d2 HX
      have HD := Lib.hid (HK.out.act (by omega) HX.out.dd HX.out.pt HX.out.kk)
      clear hx
      go_wp2_with fail
      refine HD.out.mono ?_
      rintro e w2 ⟨rfl, hr2, _⟩
      have HR2 := Lib.hid hr2
      clear hr2 d0 d1 d2
      go_wp2_with fail
      go_roundw
      case rel => exact ⟨k + 1, by go_num, by omega, by omega, HR2⟩
      case measure => simp [intOf]; omega
    · have hor : (k < z0.length ∧ 100 ≤ k) ∨ z0.length ≤ k := by omega
      clear hlt
      obtain ⟨now, N, S, L, hj, h0, h1, h2⟩ := HK.out.ex
      have HJ := Lib.hid hj
      have HC := Lib.hid (cclone_any hj.cs.ck)
      have h3 : N ≤ 100 := by omega
      have h4 : now ≤ 100 := by omega
      clear hj h1 h2
      rcases hor with ⟨g1, g2⟩ | g1
      all_goals
        go_wp2_with fail
        refine HC.out.mono ?_
        rintro e w2 ⟨db, dm, rfl, hd, hc, g3, g4, hb2⟩
        have HJ2 := Lib.hid (HJ.out.below hb2)
        have HD2 := Lib.hid (show Cs w db dm now N S w2 from ⟨hd, HJ.out.cs.low.trans (hb2.mono HJ.out.cs.low.size), Nat.le_trans HJ.out.cs.low.size g3, Nat.le_trans HJ.out.cs.low.size g4⟩)
        have HG := Lib.hid (show cb < wr.heap.size ∧ bm < wr.heap.size ∧ pb < wr.heap.size ∧ wr.heap.size ≤ db ∧ wr.heap.size ≤ dm ∧ wr.heap.size ≤ w2.heap.size from ⟨HJ.out.cs.ck.lt.1, HJ.out.cs.ck.lt.2, HJ.out.pl.lt, g3, g4, hb2.size⟩)
        clear hd hc g3 g4 hb2 HC
        obtain ⟨v1, v2, hpk, ho1, ho2⟩ := HJ2.out.pl.ex
        have p0 := hpk.cell 0
        have p1 := hpk.cell 1
        have p2 := hpk.cell 2
        simp only [List.getElem?_toArray, List.getElem?_cons_zero, List.getElem?_cons_succ] at p0 p1 p2
        obtain ⟨A1, d1, rfl, -, -⟩ := own_slice ho1
        obtain ⟨A2, d2, rfl, -, -⟩ := own_slice ho2
        obtain ⟨m, hm⟩ : ∃ m, L.length = m := ⟨_, rfl⟩
        have HMm := Lib.hid hm
        rw [hm] at p1 p2 hpk
        have HO1 := Lib.hid ho1
        have HO2 := Lib.hid ho2
        rw [hm] at HO1 HO2
        clear hpk ho1 ho2 hm
        go_wp2_with fail
        have hbl : Below w2.heap.size w2 (w2.alloc (.cells #[.int .i64 now, .slice A1 m d1, .slice A2 m d2] 40)) := (Below.refl _ _).alloc (Nat.le_refl _) _
        have hQ := Blk.new w2 40 #[.int .i64 now, .slice A1 m d1, .slice A2 m d2]
        obtain ⟨qb, hqb⟩ : ∃ qb, w2.heap.size = qb := ⟨_, rfl⟩
        obtain ⟨w3, hw3⟩ : ∃ w3, w2.alloc (.cells #[.int .i64 now, .slice A1 m d1, .slice A2 m d2] 40) = w3 := ⟨_, rfl⟩
        rw [hw3] at hbl hQ ⊢
        have hJ3 := HJ2.out.below hbl
        have hD3 := HD2.out.below hbl
        have HR3 := Lib.hid (show Ru w db dm qb 100 w3 from ⟨now, N, S, L, ⟨hD3, ⟨_, _, by rw [← hqb]; exact hQ, by rw [HMm.out]; exact below_own HO1.out hbl (Nat.le_refl _), by rw [HMm.out]; exact below_own HO2.out hbl (Nat.le_refl _)⟩, HJ2.out.tl, by rw [← hqb]; exact HJ2.out.cs.low.size, by have := HJ2.out.len; omega⟩, h0, by omega, by omega⟩)
        have HJ3 := Lib.hid hJ3
        have HG3 := Lib.hid (show qb ≠ cb ∧ qb ≠ bm ∧ qb ≠ pb ∧ wr.heap.size ≤ qb from by have := HG.out; have := hqb; omega)
        obtain ⟨B0, hB0⟩ : ∃ b, wr.heap.size = b := ⟨_, rfl⟩
        rw [hB0] at HG HG3
        rw [hqb]
        clear hbl hQ hw3 hJ3 hD3 p0 p1 p2 hB0
        go_wp2_with fail
        go_loopw [10] (fun x wq => ∃ j : Nat, x = .int .i64 (j : Int) ∧ j ≤ z1.length ∧ j ≤ 60 ∧ Hid (Ru w db dm qb (100 + j) wq) ∧ Hid (Jp w cb bm pb now N S L wq)) (fun x _ => 60 - (intOf x).toNat)
        case atStart => exact ⟨0, rfl, Nat.zero_le _, Nat.zero_le _, HR3, HJ3⟩
        case round =>
          obtain ⟨j, rfl, hj1, hj2, HR, HJq⟩ := hrel
          by_cases hlt : j < z1.length ∧ j < 60
          · obtain ⟨hlt, hlt2⟩ := hlt
            obtain ⟨ad, rfl, e0, e1, e2⟩ := act_come HB.out HR.out.low hlt
            have HX := Lib.hid (HB.out.came _ (List.getElem_mem hlt))
            obtain ⟨x, hx⟩ : ∃ x, z1[j] = x := ⟨_, rfl⟩
            rw [hx] at e0 e1 e2 HX
            have HD := Lib.hid (HR.out.act (by omega) HX.out.dd HX.out.pt HX.out.kk)
            clear hx
            go_wp2_with fail
            refine HD.out.mono ?_
            rintro e w4 ⟨rfl, hr4, ht4⟩
            have HR4 := Lib.hid (show Ru w db dm qb (100 + (j + 1)) w4 from hr4)
            obtain ⟨_, _, _, _, hjq, _⟩ := HR.out.ex
            have HJ4 := Lib.hid (show Jp w cb bm pb now N S L w4 from HJq.out.apart ht4 (B := B0) HG.out.1 HG.out.2.1 HG.out.2.2.1 HG.out.2.2.2.1 HG.out.2.2.2.2.1 HG3.out.2.2.2 hr4.low (NotRow.blk hjq.cs.ck.blk (by decide)) (hjq.cs.ck.map.elim fun _ hD => NotRow.map hD.1) hjq.pl.notRow)
            clear hr4 ht4 hjq e0 e1 e2
            go_wp2_with fail
            go_roundw
            case rel => exact ⟨j + 1, by go_num, by omega, by omega, HR4, HJ4⟩
            case measure => simp [intOf]; omega
          · have hor2 : (j < z1.length ∧ 60 ≤ j) ∨ z1.length ≤ j := by omega
            clear hlt
            have HLow := Lib.hid HJq.out.cs.low
            obtain ⟨v1, v2, hpk, -, -⟩ := HJq.out.pl.ex
            have HPk := Lib.hid hpk
            have KN := Lib.hid (fun q => (now_any (HJq.out.drewN q).cs.ck))
            clear hpk
            rcases hor2 with ⟨g1, g2⟩ | g1
            all_goals
              have q0 := HPk.out.cell 0
              simp only [List.getElem?_toArray, List.getElem?_cons_zero] at q0
              have q1 : wr.drew.cell? ⟨pb, 0, none⟩ = some (.int .i64 now) := q0
              go_wp2_with fail
              go_region_law (first
                | (go_simp; go_at_call 13; refine (KN.out 1).mono ?_; rintro e u1 ⟨rfl, rfl⟩)
                | (go_simp; go_at_call 8; refine (wakes9_any _).mono ?_; rintro e w6 ⟨rfl, hb6⟩))
              all_goals
                have HB6 := Lib.hid ((below_drewN HLow.out 1).trans (hb6.mono HLow.out.size))
                clear hb6
                go_wp2_with fail
                go_ret
                exact ⟨rfl, HB6.out⟩
end Go.Proofs.Ytdljbmjjdjbopaa
