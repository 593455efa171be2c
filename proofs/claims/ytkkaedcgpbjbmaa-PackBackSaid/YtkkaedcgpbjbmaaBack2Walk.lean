/- The walk of PackBack: it returns true for any bytes and any place. -/
import Derived.Test.YtkkaedcgpbjbmaaTaken
import Derived.Test.YtkkaedcgpbjbmaaListsWalk
import Derived.Test.YtkkaedcgpbjbmaaBounds
import Derived.Test.YtkkaedcgpbjbmaaWithin
namespace Go.Proofs.Ytkkaedcgpbjbmaa
open Go.RowKit

set_option maxHeartbeats 2000000 in
set_option maxRecDepth 100000 in
theorem packBack_short (A : Option Addr) (c n : Nat) (zs2 : List Int) (i : Int) (p : Nat) (w : World) (hn2 : zs2.length = n) (hn : n ≤ 600) (hcap : n ≤ c) (hc : c ≤ 9223372036854775807) (hz : ∀ z ∈ zs2, 0 ≤ z ∧ z ≤ 255) (hh : Has w w.heap.size A (u8s zs2)) (hp : p ≤ n) (hi : -9223372036854775808 ≤ i ∧ i ≤ 9223372036854775807) (hip : i % ((n : Int) + 1) = p) :
    Calls Try.prog 10 #[.slice A n c, .int .i64 i] w fun e w' => e = .returned (.bool true) ∧ Below w.heap.size w w' := by
  have HW := Lib.hid (fun w => within_any i ((n : Int) + 1) (by omega) (by omega) hi.1 hi.2 w)
  rw [hip] at HW
  clear hip hi
  have hb0 := Below.refl w.heap.size w
  have HZ := Lib.hid hz
  have HO := Lib.hid hh
  have HL := Lib.hid hn2
  clear hz hh hn2
  go_enter Try.func10, Try.ntmps10
  go_wp2_with fail
  refine (HW.out _).mono ?_
  rintro e w2 ⟨rfl, rfl⟩
  rcases ht0 : tkCerts zs2 p with _ | ⟨l0, j0⟩
  · have HT0 := Lib.hid ht0
    clear ht0
    go_wp2_with fail
    refine (take_certs_no HL.out HT0.out (by omega) (by omega) HZ.out _ hb0.size (HO.out.below hb0 (Nat.le_refl _))).mono ?_
    rintro e wa0 ⟨rfl, hba0⟩
    have hn0 := hb0.trans (hba0.mono hb0.size)
    rcases ht1 : tkParts zs2 p with _ | ⟨l1, j1⟩
    · have HT1 := Lib.hid ht1
      clear ht1
      go_wp2_with fail
      refine (take_parts_no HL.out HT1.out (by omega) (by omega) HZ.out _ hn0.size (HO.out.below hn0 (Nat.le_refl _))).mono ?_
      rintro e wa1 ⟨rfl, hba1⟩
      have hn1 := hn0.trans (hba1.mono hn0.size)
      rcases ht2 : tkBatch zs2 p with _ | ⟨l2, j2⟩
      · have HT2 := Lib.hid ht2
        clear ht2
        go_wp2_with fail
        refine (take_batch_no HL.out HT2.out (by omega) (by omega) HZ.out _ hn1.size (HO.out.below hn1 (Nat.le_refl _))).mono ?_
        rintro e wa2 ⟨rfl, hba2⟩
        have hn2 := hn1.trans (hba2.mono hn1.size)
        go_wp2_with fail
        refine (wakes_any _).mono ?_
        rintro e wz ⟨rfl, hbz⟩
        go_wp2_with fail
        go_ret
        exact ⟨rfl, hn2.trans (hbz.mono hn2.size)⟩
      · obtain ⟨q2, hq, hpq2, hqn2, hbo2, htl2⟩ := taken_back (f := tkBatch) tells_batch HZ.out (show p ≤ zs2.length by rw [HL.out]; omega) ht2
        subst hq
        have htp2 : 0 < (listToks Rq.toks l2).length := by simp [listToks]
        rw [HL.out] at hqn2
        have hlt2 : p < c := by omega
        obtain ⟨ad2, hA2⟩ : ∃ ad, A = some ad := by
          obtain ⟨ad, h, _⟩ := HO.out.at (k := p) (by rw [u8s_len, HL.out]; omega)
          exact ⟨ad, h⟩
        subst hA2
        have HT2 := Lib.hid ht2
        have HB2 := Lib.hid hbo2
        have HLen2 := Lib.hid (show ((zs2.drop p).take (q2 - p)).length = q2 - p by rw [List.length_take, List.length_drop, HL.out]; omega)
        clear ht2 hbo2
        go_wp2_with fail
        refine (take_batch_yes HL.out HT2.out (by omega) (by omega) HZ.out _ hn1.size (HO.out.below hn1 (Nat.le_refl _))).mono ?_
        rintro e wa2 ⟨A2, c2, rfl, hk2, hl2, own, hba2⟩
        have hn2 := hn1.trans (hba2.mono hn1.size)
        have HR2 := Lib.hid (Has.ownS own)
        clear own
        go_wp2_with fail
        refine (pack_batch l2 A2 c2 _ HR2.out (by omega)).mono ?_
        rintro e wb2 ⟨hbb2, ⟨bs2, Ab2, cb2, hbo, rfl, hob⟩ | ⟨hbo, rfl⟩⟩
        · have hbe : bs2 = (zs2.drop p).take (q2 - p) := Option.some.inj (hbo.symm.trans HB2.out)
          have hbl : bs2.length = q2 - p := by rw [hbe]; exact HLen2.out
          have HOb := Lib.hid (Has.own hob)
          have HBe := Lib.hid hbe
          have HBl := Lib.hid hbl
          have hm2 := hn2.trans (hbb2.mono hn2.size)
          have HC := Lib.hid (show Has wb2 wb2.heap.size (some (ad2.add p)) (u8s ((zs2.drop p).take (q2 - p))) from (Has.cut ((HO.out.below hm2 (Nat.le_refl _)).more hm2.size) p (q2 - p)))
          have HS := Lib.hid (show sameB bs2 ((zs2.drop p).take (q2 - p)) = true by rw [HBe.out]; simp [sameB])
          have hbm2 : bs2.length ≤ 600 := by omega
          clear hbo hob hbe hbl
          go_wp2_with fail
          refine (same_is rfl HLen2.out (by omega) HS.out _ HOb.out HC.out).mono ?_
          rintro e ws2 ⟨rfl, nq2, rfl⟩
          have ho2 := below_drewN hm2 nq2
          clear HOb HBe HBl HC HS
          go_wp2_with fail
          refine (wakes_any _).mono ?_
          rintro e wz ⟨rfl, hbz⟩
          go_wp2_with fail
          go_ret
          exact ⟨rfl, ho2.trans (hbz.mono ho2.size)⟩
        · exact absurd (HB2.out.symm.trans hbo) (by simp)
    · obtain ⟨q1, hq, hpq1, hqn1, hbo1, htl1⟩ := taken_back (f := tkParts) tells_parts HZ.out (show p ≤ zs2.length by rw [HL.out]; omega) ht1
      subst hq
      have htp1 : 0 < (listToks Pt.toks l1).length := by simp [listToks]
      rw [HL.out] at hqn1
      have hlt1 : p < c := by omega
      obtain ⟨ad1, hA1⟩ : ∃ ad, A = some ad := by
        obtain ⟨ad, h, _⟩ := HO.out.at (k := p) (by rw [u8s_len, HL.out]; omega)
        exact ⟨ad, h⟩
      subst hA1
      have HT1 := Lib.hid ht1
      have HB1 := Lib.hid hbo1
      have HLen1 := Lib.hid (show ((zs2.drop p).take (q1 - p)).length = q1 - p by rw [List.length_take, List.length_drop, HL.out]; omega)
      clear ht1 hbo1
      go_wp2_with fail
      refine (take_parts_yes HL.out HT1.out (by omega) (by omega) HZ.out _ hn0.size (HO.out.below hn0 (Nat.le_refl _))).mono ?_
      rintro e wa1 ⟨A1, c1, rfl, hk1, hl1, own, hba1⟩
      have hn1 := hn0.trans (hba1.mono hn0.size)
      have HR1 := Lib.hid (own.has)
      clear own
      go_wp2_with fail
      refine (pack_parts l1 A1 c1 _ HR1.out (by omega)).mono ?_
      rintro e wb1 ⟨hbb1, ⟨bs1, Ab1, cb1, hbo, rfl, hob⟩ | ⟨hbo, rfl⟩⟩
      · have hbe : bs1 = (zs2.drop p).take (q1 - p) := Option.some.inj (hbo.symm.trans HB1.out)
        have hbl : bs1.length = q1 - p := by rw [hbe]; exact HLen1.out
        have HOb := Lib.hid (Has.own hob)
        have HBe := Lib.hid hbe
        have HBl := Lib.hid hbl
        have hm1 := hn1.trans (hbb1.mono hn1.size)
        have HC := Lib.hid (show Has wb1 wb1.heap.size (some (ad1.add p)) (u8s ((zs2.drop p).take (q1 - p))) from (Has.cut ((HO.out.below hm1 (Nat.le_refl _)).more hm1.size) p (q1 - p)))
        have HS := Lib.hid (show sameB bs1 ((zs2.drop p).take (q1 - p)) = true by rw [HBe.out]; simp [sameB])
        have hbm1 : bs1.length ≤ 600 := by omega
        clear hbo hob hbe hbl
        go_wp2_with fail
        refine (same_is rfl HLen1.out (by omega) HS.out _ HOb.out HC.out).mono ?_
        rintro e ws1 ⟨rfl, nq1, rfl⟩
        have ho1 := below_drewN hm1 nq1
        clear HOb HBe HBl HC HS
        rcases ht2 : tkBatch zs2 p with _ | ⟨l2, j2⟩
        · have HT2 := Lib.hid ht2
          clear ht2
          go_wp2_with fail
          refine (take_batch_no HL.out HT2.out (by omega) (by omega) HZ.out _ ho1.size (HO.out.below ho1 (Nat.le_refl _))).mono ?_
          rintro e wa2 ⟨rfl, hba2⟩
          have hn2 := ho1.trans (hba2.mono ho1.size)
          go_wp2_with fail
          refine (wakes_any _).mono ?_
          rintro e wz ⟨rfl, hbz⟩
          go_wp2_with fail
          go_ret
          exact ⟨rfl, hn2.trans (hbz.mono hn2.size)⟩
        · obtain ⟨q2, hq, hpq2, hqn2, hbo2, htl2⟩ := taken_back (f := tkBatch) tells_batch HZ.out (show p ≤ zs2.length by rw [HL.out]; omega) ht2
          subst hq
          have htp2 : 0 < (listToks Rq.toks l2).length := by simp [listToks]
          rw [HL.out] at hqn2
          have hlt2 : p < c := by omega
          have HT2 := Lib.hid ht2
          have HB2 := Lib.hid hbo2
          have HLen2 := Lib.hid (show ((zs2.drop p).take (q2 - p)).length = q2 - p by rw [List.length_take, List.length_drop, HL.out]; omega)
          clear ht2 hbo2
          go_wp2_with fail
          refine (take_batch_yes HL.out HT2.out (by omega) (by omega) HZ.out _ ho1.size (HO.out.below ho1 (Nat.le_refl _))).mono ?_
          rintro e wa2 ⟨A2, c2, rfl, hk2, hl2, own, hba2⟩
          have hn2 := ho1.trans (hba2.mono ho1.size)
          have HR2 := Lib.hid (Has.ownS own)
          clear own
          go_wp2_with fail
          refine (pack_batch l2 A2 c2 _ HR2.out (by omega)).mono ?_
          rintro e wb2 ⟨hbb2, ⟨bs2, Ab2, cb2, hbo, rfl, hob⟩ | ⟨hbo, rfl⟩⟩
          · have hbe : bs2 = (zs2.drop p).take (q2 - p) := Option.some.inj (hbo.symm.trans HB2.out)
            have hbl : bs2.length = q2 - p := by rw [hbe]; exact HLen2.out
            have HOb := Lib.hid (Has.own hob)
            have HBe := Lib.hid hbe
            have HBl := Lib.hid hbl
            have hm2 := hn2.trans (hbb2.mono hn2.size)
            have HC := Lib.hid (show Has wb2 wb2.heap.size (some (ad1.add p)) (u8s ((zs2.drop p).take (q2 - p))) from (Has.cut ((HO.out.below hm2 (Nat.le_refl _)).more hm2.size) p (q2 - p)))
            have HS := Lib.hid (show sameB bs2 ((zs2.drop p).take (q2 - p)) = true by rw [HBe.out]; simp [sameB])
            have hbm2 : bs2.length ≤ 600 := by omega
            clear hbo hob hbe hbl
            go_wp2_with fail
            refine (same_is rfl HLen2.out (by omega) HS.out _ HOb.out HC.out).mono ?_
            rintro e ws2 ⟨rfl, nq2, rfl⟩
            have ho2 := below_drewN hm2 nq2
            clear HOb HBe HBl HC HS
            go_wp2_with fail
            refine (wakes_any _).mono ?_
            rintro e wz ⟨rfl, hbz⟩
            go_wp2_with fail
            go_ret
            exact ⟨rfl, ho2.trans (hbz.mono ho2.size)⟩
          · exact absurd (HB2.out.symm.trans hbo) (by simp)
      · exact absurd (HB1.out.symm.trans hbo) (by simp)
  · obtain ⟨q0, hq, hpq0, hqn0, hbo0, htl0⟩ := taken_back (f := tkCerts) tells_certs HZ.out (show p ≤ zs2.length by rw [HL.out]; omega) ht0
    subst hq
    have htp0 : 0 < (listToks Ct.toks l0).length := by simp [listToks]
    rw [HL.out] at hqn0
    have hlt0 : p < c := by omega
    obtain ⟨ad0, hA0⟩ : ∃ ad, A = some ad := by
      obtain ⟨ad, h, _⟩ := HO.out.at (k := p) (by rw [u8s_len, HL.out]; omega)
      exact ⟨ad, h⟩
    subst hA0
    have HT0 := Lib.hid ht0
    have HB0 := Lib.hid hbo0
    have HLen0 := Lib.hid (show ((zs2.drop p).take (q0 - p)).length = q0 - p by rw [List.length_take, List.length_drop, HL.out]; omega)
    clear ht0 hbo0
    go_wp2_with fail
    refine (take_certs_yes HL.out HT0.out (by omega) (by omega) HZ.out _ hb0.size (HO.out.below hb0 (Nat.le_refl _))).mono ?_
    rintro e wa0 ⟨A0, c0, rfl, hk0, hl0, own, hba0⟩
    have hn0 := hb0.trans (hba0.mono hb0.size)
    have HR0 := Lib.hid (own.has)
    clear own
    go_wp2_with fail
    refine (pack_certs l0 A0 c0 _ HR0.out (by omega)).mono ?_
    rintro e wb0 ⟨hbb0, ⟨bs0, Ab0, cb0, hbo, rfl, hob⟩ | ⟨hbo, rfl⟩⟩
    · have hbe : bs0 = (zs2.drop p).take (q0 - p) := Option.some.inj (hbo.symm.trans HB0.out)
      have hbl : bs0.length = q0 - p := by rw [hbe]; exact HLen0.out
      have HOb := Lib.hid (Has.own hob)
      have HBe := Lib.hid hbe
      have HBl := Lib.hid hbl
      have hm0 := hn0.trans (hbb0.mono hn0.size)
      have HC := Lib.hid (show Has wb0 wb0.heap.size (some (ad0.add p)) (u8s ((zs2.drop p).take (q0 - p))) from (Has.cut ((HO.out.below hm0 (Nat.le_refl _)).more hm0.size) p (q0 - p)))
      have HS := Lib.hid (show sameB bs0 ((zs2.drop p).take (q0 - p)) = true by rw [HBe.out]; simp [sameB])
      have hbm0 : bs0.length ≤ 600 := by omega
      clear hbo hob hbe hbl
      go_wp2_with fail
      refine (same_is rfl HLen0.out (by omega) HS.out _ HOb.out HC.out).mono ?_
      rintro e ws0 ⟨rfl, nq0, rfl⟩
      have ho0 := below_drewN hm0 nq0
      clear HOb HBe HBl HC HS
      rcases ht1 : tkParts zs2 p with _ | ⟨l1, j1⟩
      · have HT1 := Lib.hid ht1
        clear ht1
        go_wp2_with fail
        refine (take_parts_no HL.out HT1.out (by omega) (by omega) HZ.out _ ho0.size (HO.out.below ho0 (Nat.le_refl _))).mono ?_
        rintro e wa1 ⟨rfl, hba1⟩
        have hn1 := ho0.trans (hba1.mono ho0.size)
        rcases ht2 : tkBatch zs2 p with _ | ⟨l2, j2⟩
        · have HT2 := Lib.hid ht2
          clear ht2
          go_wp2_with fail
          refine (take_batch_no HL.out HT2.out (by omega) (by omega) HZ.out _ hn1.size (HO.out.below hn1 (Nat.le_refl _))).mono ?_
          rintro e wa2 ⟨rfl, hba2⟩
          have hn2 := hn1.trans (hba2.mono hn1.size)
          go_wp2_with fail
          refine (wakes_any _).mono ?_
          rintro e wz ⟨rfl, hbz⟩
          go_wp2_with fail
          go_ret
          exact ⟨rfl, hn2.trans (hbz.mono hn2.size)⟩
        · obtain ⟨q2, hq, hpq2, hqn2, hbo2, htl2⟩ := taken_back (f := tkBatch) tells_batch HZ.out (show p ≤ zs2.length by rw [HL.out]; omega) ht2
          subst hq
          have htp2 : 0 < (listToks Rq.toks l2).length := by simp [listToks]
          rw [HL.out] at hqn2
          have hlt2 : p < c := by omega
          have HT2 := Lib.hid ht2
          have HB2 := Lib.hid hbo2
          have HLen2 := Lib.hid (show ((zs2.drop p).take (q2 - p)).length = q2 - p by rw [List.length_take, List.length_drop, HL.out]; omega)
          clear ht2 hbo2
          go_wp2_with fail
          refine (take_batch_yes HL.out HT2.out (by omega) (by omega) HZ.out _ hn1.size (HO.out.below hn1 (Nat.le_refl _))).mono ?_
          rintro e wa2 ⟨A2, c2, rfl, hk2, hl2, own, hba2⟩
          have hn2 := hn1.trans (hba2.mono hn1.size)
          have HR2 := Lib.hid (Has.ownS own)
          clear own
          go_wp2_with fail
          refine (pack_batch l2 A2 c2 _ HR2.out (by omega)).mono ?_
          rintro e wb2 ⟨hbb2, ⟨bs2, Ab2, cb2, hbo, rfl, hob⟩ | ⟨hbo, rfl⟩⟩
          · have hbe : bs2 = (zs2.drop p).take (q2 - p) := Option.some.inj (hbo.symm.trans HB2.out)
            have hbl : bs2.length = q2 - p := by rw [hbe]; exact HLen2.out
            have HOb := Lib.hid (Has.own hob)
            have HBe := Lib.hid hbe
            have HBl := Lib.hid hbl
            have hm2 := hn2.trans (hbb2.mono hn2.size)
            have HC := Lib.hid (show Has wb2 wb2.heap.size (some (ad0.add p)) (u8s ((zs2.drop p).take (q2 - p))) from (Has.cut ((HO.out.below hm2 (Nat.le_refl _)).more hm2.size) p (q2 - p)))
            have HS := Lib.hid (show sameB bs2 ((zs2.drop p).take (q2 - p)) = true by rw [HBe.out]; simp [sameB])
            have hbm2 : bs2.length ≤ 600 := by omega
            clear hbo hob hbe hbl
            go_wp2_with fail
            refine (same_is rfl HLen2.out (by omega) HS.out _ HOb.out HC.out).mono ?_
            rintro e ws2 ⟨rfl, nq2, rfl⟩
            have ho2 := below_drewN hm2 nq2
            clear HOb HBe HBl HC HS
            go_wp2_with fail
            refine (wakes_any _).mono ?_
            rintro e wz ⟨rfl, hbz⟩
            go_wp2_with fail
            go_ret
            exact ⟨rfl, ho2.trans (hbz.mono ho2.size)⟩
          · exact absurd (HB2.out.symm.trans hbo) (by simp)
      · obtain ⟨q1, hq, hpq1, hqn1, hbo1, htl1⟩ := taken_back (f := tkParts) tells_parts HZ.out (show p ≤ zs2.length by rw [HL.out]; omega) ht1
        subst hq
        have htp1 : 0 < (listToks Pt.toks l1).length := by simp [listToks]
        rw [HL.out] at hqn1
        have hlt1 : p < c := by omega
        have HT1 := Lib.hid ht1
        have HB1 := Lib.hid hbo1
        have HLen1 := Lib.hid (show ((zs2.drop p).take (q1 - p)).length = q1 - p by rw [List.length_take, List.length_drop, HL.out]; omega)
        clear ht1 hbo1
        go_wp2_with fail
        refine (take_parts_yes HL.out HT1.out (by omega) (by omega) HZ.out _ ho0.size (HO.out.below ho0 (Nat.le_refl _))).mono ?_
        rintro e wa1 ⟨A1, c1, rfl, hk1, hl1, own, hba1⟩
        have hn1 := ho0.trans (hba1.mono ho0.size)
        have HR1 := Lib.hid (own.has)
        clear own
        go_wp2_with fail
        refine (pack_parts l1 A1 c1 _ HR1.out (by omega)).mono ?_
        rintro e wb1 ⟨hbb1, ⟨bs1, Ab1, cb1, hbo, rfl, hob⟩ | ⟨hbo, rfl⟩⟩
        · have hbe : bs1 = (zs2.drop p).take (q1 - p) := Option.some.inj (hbo.symm.trans HB1.out)
          have hbl : bs1.length = q1 - p := by rw [hbe]; exact HLen1.out
          have HOb := Lib.hid (Has.own hob)
          have HBe := Lib.hid hbe
          have HBl := Lib.hid hbl
          have hm1 := hn1.trans (hbb1.mono hn1.size)
          have HC := Lib.hid (show Has wb1 wb1.heap.size (some (ad0.add p)) (u8s ((zs2.drop p).take (q1 - p))) from (Has.cut ((HO.out.below hm1 (Nat.le_refl _)).more hm1.size) p (q1 - p)))
          have HS := Lib.hid (show sameB bs1 ((zs2.drop p).take (q1 - p)) = true by rw [HBe.out]; simp [sameB])
          have hbm1 : bs1.length ≤ 600 := by omega
          clear hbo hob hbe hbl
          go_wp2_with fail
          refine (same_is rfl HLen1.out (by omega) HS.out _ HOb.out HC.out).mono ?_
          rintro e ws1 ⟨rfl, nq1, rfl⟩
          have ho1 := below_drewN hm1 nq1
          clear HOb HBe HBl HC HS
          rcases ht2 : tkBatch zs2 p with _ | ⟨l2, j2⟩
          · have HT2 := Lib.hid ht2
            clear ht2
            go_wp2_with fail
            refine (take_batch_no HL.out HT2.out (by omega) (by omega) HZ.out _ ho1.size (HO.out.below ho1 (Nat.le_refl _))).mono ?_
            rintro e wa2 ⟨rfl, hba2⟩
            have hn2 := ho1.trans (hba2.mono ho1.size)
            go_wp2_with fail
            refine (wakes_any _).mono ?_
            rintro e wz ⟨rfl, hbz⟩
            go_wp2_with fail
            go_ret
            exact ⟨rfl, hn2.trans (hbz.mono hn2.size)⟩
          · obtain ⟨q2, hq, hpq2, hqn2, hbo2, htl2⟩ := taken_back (f := tkBatch) tells_batch HZ.out (show p ≤ zs2.length by rw [HL.out]; omega) ht2
            subst hq
            have htp2 : 0 < (listToks Rq.toks l2).length := by simp [listToks]
            rw [HL.out] at hqn2
            have hlt2 : p < c := by omega
            have HT2 := Lib.hid ht2
            have HB2 := Lib.hid hbo2
            have HLen2 := Lib.hid (show ((zs2.drop p).take (q2 - p)).length = q2 - p by rw [List.length_take, List.length_drop, HL.out]; omega)
            clear ht2 hbo2
            go_wp2_with fail
            refine (take_batch_yes HL.out HT2.out (by omega) (by omega) HZ.out _ ho1.size (HO.out.below ho1 (Nat.le_refl _))).mono ?_
            rintro e wa2 ⟨A2, c2, rfl, hk2, hl2, own, hba2⟩
            have hn2 := ho1.trans (hba2.mono ho1.size)
            have HR2 := Lib.hid (Has.ownS own)
            clear own
            go_wp2_with fail
            refine (pack_batch l2 A2 c2 _ HR2.out (by omega)).mono ?_
            rintro e wb2 ⟨hbb2, ⟨bs2, Ab2, cb2, hbo, rfl, hob⟩ | ⟨hbo, rfl⟩⟩
            · have hbe : bs2 = (zs2.drop p).take (q2 - p) := Option.some.inj (hbo.symm.trans HB2.out)
              have hbl : bs2.length = q2 - p := by rw [hbe]; exact HLen2.out
              have HOb := Lib.hid (Has.own hob)
              have HBe := Lib.hid hbe
              have HBl := Lib.hid hbl
              have hm2 := hn2.trans (hbb2.mono hn2.size)
              have HC := Lib.hid (show Has wb2 wb2.heap.size (some (ad0.add p)) (u8s ((zs2.drop p).take (q2 - p))) from (Has.cut ((HO.out.below hm2 (Nat.le_refl _)).more hm2.size) p (q2 - p)))
              have HS := Lib.hid (show sameB bs2 ((zs2.drop p).take (q2 - p)) = true by rw [HBe.out]; simp [sameB])
              have hbm2 : bs2.length ≤ 600 := by omega
              clear hbo hob hbe hbl
              go_wp2_with fail
              refine (same_is rfl HLen2.out (by omega) HS.out _ HOb.out HC.out).mono ?_
              rintro e ws2 ⟨rfl, nq2, rfl⟩
              have ho2 := below_drewN hm2 nq2
              clear HOb HBe HBl HC HS
              go_wp2_with fail
              refine (wakes_any _).mono ?_
              rintro e wz ⟨rfl, hbz⟩
              go_wp2_with fail
              go_ret
              exact ⟨rfl, ho2.trans (hbz.mono ho2.size)⟩
            · exact absurd (HB2.out.symm.trans hbo) (by simp)
        · exact absurd (HB1.out.symm.trans hbo) (by simp)
    · exact absurd (HB0.out.symm.trans hbo) (by simp)

set_option maxHeartbeats 2000000 in
set_option maxRecDepth 100000 in
theorem packBack_long (A : Option Addr) (c n0 : Nat) (zs2 : List Int) (i : Int) (p : Nat) (w : World) (hn2 : zs2.length = 600) (hn : 600 < n0) (hcap : n0 ≤ c) (hc : c ≤ 9223372036854775807) (hz : ∀ z ∈ zs2, 0 ≤ z ∧ z ≤ 255) (hh : Has w w.heap.size A (u8s zs2)) (hp : p ≤ 600) (hi : -9223372036854775808 ≤ i ∧ i ≤ 9223372036854775807) (hip : i % 601 = p) :
    Calls Try.prog 10 #[.slice A n0 c, .int .i64 i] w fun e w' => e = .returned (.bool true) ∧ Below w.heap.size w w' := by
  have HW := Lib.hid (fun w => within_any i 601 (by omega) (by omega) hi.1 hi.2 w)
  rw [hip] at HW
  clear hip hi
  have hb0 := Below.refl w.heap.size w
  have HZ := Lib.hid hz
  have HO := Lib.hid hh
  have HL := Lib.hid hn2
  clear hz hh hn2
  go_enter Try.func10, Try.ntmps10
  go_wp2_with fail
  refine (HW.out _).mono ?_
  rintro e w2 ⟨rfl, rfl⟩
  rcases ht0 : tkCerts zs2 p with _ | ⟨l0, j0⟩
  · have HT0 := Lib.hid ht0
    clear ht0
    go_wp2_with fail
    refine (take_certs_no HL.out HT0.out (by omega) (by omega) HZ.out _ hb0.size (HO.out.below hb0 (Nat.le_refl _))).mono ?_
    rintro e wa0 ⟨rfl, hba0⟩
    have hn0 := hb0.trans (hba0.mono hb0.size)
    rcases ht1 : tkParts zs2 p with _ | ⟨l1, j1⟩
    · have HT1 := Lib.hid ht1
      clear ht1
      go_wp2_with fail
      refine (take_parts_no HL.out HT1.out (by omega) (by omega) HZ.out _ hn0.size (HO.out.below hn0 (Nat.le_refl _))).mono ?_
      rintro e wa1 ⟨rfl, hba1⟩
      have hn1 := hn0.trans (hba1.mono hn0.size)
      rcases ht2 : tkBatch zs2 p with _ | ⟨l2, j2⟩
      · have HT2 := Lib.hid ht2
        clear ht2
        go_wp2_with fail
        refine (take_batch_no HL.out HT2.out (by omega) (by omega) HZ.out _ hn1.size (HO.out.below hn1 (Nat.le_refl _))).mono ?_
        rintro e wa2 ⟨rfl, hba2⟩
        have hn2 := hn1.trans (hba2.mono hn1.size)
        go_wp2_with fail
        refine (wakes_any _).mono ?_
        rintro e wz ⟨rfl, hbz⟩
        go_wp2_with fail
        go_ret
        exact ⟨rfl, hn2.trans (hbz.mono hn2.size)⟩
      · obtain ⟨q2, hq, hpq2, hqn2, hbo2, htl2⟩ := taken_back (f := tkBatch) tells_batch HZ.out (show p ≤ zs2.length by rw [HL.out]; omega) ht2
        subst hq
        have htp2 : 0 < (listToks Rq.toks l2).length := by simp [listToks]
        rw [HL.out] at hqn2
        have hlt2 : p < c := by omega
        obtain ⟨ad2, hA2⟩ : ∃ ad, A = some ad := by
          obtain ⟨ad, h, _⟩ := HO.out.at (k := p) (by rw [u8s_len, HL.out]; omega)
          exact ⟨ad, h⟩
        subst hA2
        have HT2 := Lib.hid ht2
        have HB2 := Lib.hid hbo2
        have HLen2 := Lib.hid (show ((zs2.drop p).take (q2 - p)).length = q2 - p by rw [List.length_take, List.length_drop, HL.out]; omega)
        clear ht2 hbo2
        go_wp2_with fail
        refine (take_batch_yes HL.out HT2.out (by omega) (by omega) HZ.out _ hn1.size (HO.out.below hn1 (Nat.le_refl _))).mono ?_
        rintro e wa2 ⟨A2, c2, rfl, hk2, hl2, own, hba2⟩
        have hn2 := hn1.trans (hba2.mono hn1.size)
        have HR2 := Lib.hid (Has.ownS own)
        clear own
        go_wp2_with fail
        refine (pack_batch l2 A2 c2 _ HR2.out (by omega)).mono ?_
        rintro e wb2 ⟨hbb2, ⟨bs2, Ab2, cb2, hbo, rfl, hob⟩ | ⟨hbo, rfl⟩⟩
        · have hbe : bs2 = (zs2.drop p).take (q2 - p) := Option.some.inj (hbo.symm.trans HB2.out)
          have hbl : bs2.length = q2 - p := by rw [hbe]; exact HLen2.out
          have HOb := Lib.hid (Has.own hob)
          have HBe := Lib.hid hbe
          have HBl := Lib.hid hbl
          have hm2 := hn2.trans (hbb2.mono hn2.size)
          have HC := Lib.hid (show Has wb2 wb2.heap.size (some (ad2.add p)) (u8s ((zs2.drop p).take (q2 - p))) from (Has.cut ((HO.out.below hm2 (Nat.le_refl _)).more hm2.size) p (q2 - p)))
          have HS := Lib.hid (show sameB bs2 ((zs2.drop p).take (q2 - p)) = true by rw [HBe.out]; simp [sameB])
          have hbm2 : bs2.length ≤ 600 := by omega
          clear hbo hob hbe hbl
          go_wp2_with fail
          refine (same_is rfl HLen2.out (by omega) HS.out _ HOb.out HC.out).mono ?_
          rintro e ws2 ⟨rfl, nq2, rfl⟩
          have ho2 := below_drewN hm2 nq2
          clear HOb HBe HBl HC HS
          go_wp2_with fail
          refine (wakes_any _).mono ?_
          rintro e wz ⟨rfl, hbz⟩
          go_wp2_with fail
          go_ret
          exact ⟨rfl, ho2.trans (hbz.mono ho2.size)⟩
        · exact absurd (HB2.out.symm.trans hbo) (by simp)
    · obtain ⟨q1, hq, hpq1, hqn1, hbo1, htl1⟩ := taken_back (f := tkParts) tells_parts HZ.out (show p ≤ zs2.length by rw [HL.out]; omega) ht1
      subst hq
      have htp1 : 0 < (listToks Pt.toks l1).length := by simp [listToks]
      rw [HL.out] at hqn1
      have hlt1 : p < c := by omega
      obtain ⟨ad1, hA1⟩ : ∃ ad, A = some ad := by
        obtain ⟨ad, h, _⟩ := HO.out.at (k := p) (by rw [u8s_len, HL.out]; omega)
        exact ⟨ad, h⟩
      subst hA1
      have HT1 := Lib.hid ht1
      have HB1 := Lib.hid hbo1
      have HLen1 := Lib.hid (show ((zs2.drop p).take (q1 - p)).length = q1 - p by rw [List.length_take, List.length_drop, HL.out]; omega)
      clear ht1 hbo1
      go_wp2_with fail
      refine (take_parts_yes HL.out HT1.out (by omega) (by omega) HZ.out _ hn0.size (HO.out.below hn0 (Nat.le_refl _))).mono ?_
      rintro e wa1 ⟨A1, c1, rfl, hk1, hl1, own, hba1⟩
      have hn1 := hn0.trans (hba1.mono hn0.size)
      have HR1 := Lib.hid (own.has)
      clear own
      go_wp2_with fail
      refine (pack_parts l1 A1 c1 _ HR1.out (by omega)).mono ?_
      rintro e wb1 ⟨hbb1, ⟨bs1, Ab1, cb1, hbo, rfl, hob⟩ | ⟨hbo, rfl⟩⟩
      · have hbe : bs1 = (zs2.drop p).take (q1 - p) := Option.some.inj (hbo.symm.trans HB1.out)
        have hbl : bs1.length = q1 - p := by rw [hbe]; exact HLen1.out
        have HOb := Lib.hid (Has.own hob)
        have HBe := Lib.hid hbe
        have HBl := Lib.hid hbl
        have hm1 := hn1.trans (hbb1.mono hn1.size)
        have HC := Lib.hid (show Has wb1 wb1.heap.size (some (ad1.add p)) (u8s ((zs2.drop p).take (q1 - p))) from (Has.cut ((HO.out.below hm1 (Nat.le_refl _)).more hm1.size) p (q1 - p)))
        have HS := Lib.hid (show sameB bs1 ((zs2.drop p).take (q1 - p)) = true by rw [HBe.out]; simp [sameB])
        have hbm1 : bs1.length ≤ 600 := by omega
        clear hbo hob hbe hbl
        go_wp2_with fail
        refine (same_is rfl HLen1.out (by omega) HS.out _ HOb.out HC.out).mono ?_
        rintro e ws1 ⟨rfl, nq1, rfl⟩
        have ho1 := below_drewN hm1 nq1
        clear HOb HBe HBl HC HS
        rcases ht2 : tkBatch zs2 p with _ | ⟨l2, j2⟩
        · have HT2 := Lib.hid ht2
          clear ht2
          go_wp2_with fail
          refine (take_batch_no HL.out HT2.out (by omega) (by omega) HZ.out _ ho1.size (HO.out.below ho1 (Nat.le_refl _))).mono ?_
          rintro e wa2 ⟨rfl, hba2⟩
          have hn2 := ho1.trans (hba2.mono ho1.size)
          go_wp2_with fail
          refine (wakes_any _).mono ?_
          rintro e wz ⟨rfl, hbz⟩
          go_wp2_with fail
          go_ret
          exact ⟨rfl, hn2.trans (hbz.mono hn2.size)⟩
        · obtain ⟨q2, hq, hpq2, hqn2, hbo2, htl2⟩ := taken_back (f := tkBatch) tells_batch HZ.out (show p ≤ zs2.length by rw [HL.out]; omega) ht2
          subst hq
          have htp2 : 0 < (listToks Rq.toks l2).length := by simp [listToks]
          rw [HL.out] at hqn2
          have hlt2 : p < c := by omega
          have HT2 := Lib.hid ht2
          have HB2 := Lib.hid hbo2
          have HLen2 := Lib.hid (show ((zs2.drop p).take (q2 - p)).length = q2 - p by rw [List.length_take, List.length_drop, HL.out]; omega)
          clear ht2 hbo2
          go_wp2_with fail
          refine (take_batch_yes HL.out HT2.out (by omega) (by omega) HZ.out _ ho1.size (HO.out.below ho1 (Nat.le_refl _))).mono ?_
          rintro e wa2 ⟨A2, c2, rfl, hk2, hl2, own, hba2⟩
          have hn2 := ho1.trans (hba2.mono ho1.size)
          have HR2 := Lib.hid (Has.ownS own)
          clear own
          go_wp2_with fail
          refine (pack_batch l2 A2 c2 _ HR2.out (by omega)).mono ?_
          rintro e wb2 ⟨hbb2, ⟨bs2, Ab2, cb2, hbo, rfl, hob⟩ | ⟨hbo, rfl⟩⟩
          · have hbe : bs2 = (zs2.drop p).take (q2 - p) := Option.some.inj (hbo.symm.trans HB2.out)
            have hbl : bs2.length = q2 - p := by rw [hbe]; exact HLen2.out
            have HOb := Lib.hid (Has.own hob)
            have HBe := Lib.hid hbe
            have HBl := Lib.hid hbl
            have hm2 := hn2.trans (hbb2.mono hn2.size)
            have HC := Lib.hid (show Has wb2 wb2.heap.size (some (ad1.add p)) (u8s ((zs2.drop p).take (q2 - p))) from (Has.cut ((HO.out.below hm2 (Nat.le_refl _)).more hm2.size) p (q2 - p)))
            have HS := Lib.hid (show sameB bs2 ((zs2.drop p).take (q2 - p)) = true by rw [HBe.out]; simp [sameB])
            have hbm2 : bs2.length ≤ 600 := by omega
            clear hbo hob hbe hbl
            go_wp2_with fail
            refine (same_is rfl HLen2.out (by omega) HS.out _ HOb.out HC.out).mono ?_
            rintro e ws2 ⟨rfl, nq2, rfl⟩
            have ho2 := below_drewN hm2 nq2
            clear HOb HBe HBl HC HS
            go_wp2_with fail
            refine (wakes_any _).mono ?_
            rintro e wz ⟨rfl, hbz⟩
            go_wp2_with fail
            go_ret
            exact ⟨rfl, ho2.trans (hbz.mono ho2.size)⟩
          · exact absurd (HB2.out.symm.trans hbo) (by simp)
      · exact absurd (HB1.out.symm.trans hbo) (by simp)
  · obtain ⟨q0, hq, hpq0, hqn0, hbo0, htl0⟩ := taken_back (f := tkCerts) tells_certs HZ.out (show p ≤ zs2.length by rw [HL.out]; omega) ht0
    subst hq
    have htp0 : 0 < (listToks Ct.toks l0).length := by simp [listToks]
    rw [HL.out] at hqn0
    have hlt0 : p < c := by omega
    obtain ⟨ad0, hA0⟩ : ∃ ad, A = some ad := by
      obtain ⟨ad, h, _⟩ := HO.out.at (k := p) (by rw [u8s_len, HL.out]; omega)
      exact ⟨ad, h⟩
    subst hA0
    have HT0 := Lib.hid ht0
    have HB0 := Lib.hid hbo0
    have HLen0 := Lib.hid (show ((zs2.drop p).take (q0 - p)).length = q0 - p by rw [List.length_take, List.length_drop, HL.out]; omega)
    clear ht0 hbo0
    go_wp2_with fail
    refine (take_certs_yes HL.out HT0.out (by omega) (by omega) HZ.out _ hb0.size (HO.out.below hb0 (Nat.le_refl _))).mono ?_
    rintro e wa0 ⟨A0, c0, rfl, hk0, hl0, own, hba0⟩
    have hn0 := hb0.trans (hba0.mono hb0.size)
    have HR0 := Lib.hid (own.has)
    clear own
    go_wp2_with fail
    refine (pack_certs l0 A0 c0 _ HR0.out (by omega)).mono ?_
    rintro e wb0 ⟨hbb0, ⟨bs0, Ab0, cb0, hbo, rfl, hob⟩ | ⟨hbo, rfl⟩⟩
    · have hbe : bs0 = (zs2.drop p).take (q0 - p) := Option.some.inj (hbo.symm.trans HB0.out)
      have hbl : bs0.length = q0 - p := by rw [hbe]; exact HLen0.out
      have HOb := Lib.hid (Has.own hob)
      have HBe := Lib.hid hbe
      have HBl := Lib.hid hbl
      have hm0 := hn0.trans (hbb0.mono hn0.size)
      have HC := Lib.hid (show Has wb0 wb0.heap.size (some (ad0.add p)) (u8s ((zs2.drop p).take (q0 - p))) from (Has.cut ((HO.out.below hm0 (Nat.le_refl _)).more hm0.size) p (q0 - p)))
      have HS := Lib.hid (show sameB bs0 ((zs2.drop p).take (q0 - p)) = true by rw [HBe.out]; simp [sameB])
      have hbm0 : bs0.length ≤ 600 := by omega
      clear hbo hob hbe hbl
      go_wp2_with fail
      refine (same_is rfl HLen0.out (by omega) HS.out _ HOb.out HC.out).mono ?_
      rintro e ws0 ⟨rfl, nq0, rfl⟩
      have ho0 := below_drewN hm0 nq0
      clear HOb HBe HBl HC HS
      rcases ht1 : tkParts zs2 p with _ | ⟨l1, j1⟩
      · have HT1 := Lib.hid ht1
        clear ht1
        go_wp2_with fail
        refine (take_parts_no HL.out HT1.out (by omega) (by omega) HZ.out _ ho0.size (HO.out.below ho0 (Nat.le_refl _))).mono ?_
        rintro e wa1 ⟨rfl, hba1⟩
        have hn1 := ho0.trans (hba1.mono ho0.size)
        rcases ht2 : tkBatch zs2 p with _ | ⟨l2, j2⟩
        · have HT2 := Lib.hid ht2
          clear ht2
          go_wp2_with fail
          refine (take_batch_no HL.out HT2.out (by omega) (by omega) HZ.out _ hn1.size (HO.out.below hn1 (Nat.le_refl _))).mono ?_
          rintro e wa2 ⟨rfl, hba2⟩
          have hn2 := hn1.trans (hba2.mono hn1.size)
          go_wp2_with fail
          refine (wakes_any _).mono ?_
          rintro e wz ⟨rfl, hbz⟩
          go_wp2_with fail
          go_ret
          exact ⟨rfl, hn2.trans (hbz.mono hn2.size)⟩
        · obtain ⟨q2, hq, hpq2, hqn2, hbo2, htl2⟩ := taken_back (f := tkBatch) tells_batch HZ.out (show p ≤ zs2.length by rw [HL.out]; omega) ht2
          subst hq
          have htp2 : 0 < (listToks Rq.toks l2).length := by simp [listToks]
          rw [HL.out] at hqn2
          have hlt2 : p < c := by omega
          have HT2 := Lib.hid ht2
          have HB2 := Lib.hid hbo2
          have HLen2 := Lib.hid (show ((zs2.drop p).take (q2 - p)).length = q2 - p by rw [List.length_take, List.length_drop, HL.out]; omega)
          clear ht2 hbo2
          go_wp2_with fail
          refine (take_batch_yes HL.out HT2.out (by omega) (by omega) HZ.out _ hn1.size (HO.out.below hn1 (Nat.le_refl _))).mono ?_
          rintro e wa2 ⟨A2, c2, rfl, hk2, hl2, own, hba2⟩
          have hn2 := hn1.trans (hba2.mono hn1.size)
          have HR2 := Lib.hid (Has.ownS own)
          clear own
          go_wp2_with fail
          refine (pack_batch l2 A2 c2 _ HR2.out (by omega)).mono ?_
          rintro e wb2 ⟨hbb2, ⟨bs2, Ab2, cb2, hbo, rfl, hob⟩ | ⟨hbo, rfl⟩⟩
          · have hbe : bs2 = (zs2.drop p).take (q2 - p) := Option.some.inj (hbo.symm.trans HB2.out)
            have hbl : bs2.length = q2 - p := by rw [hbe]; exact HLen2.out
            have HOb := Lib.hid (Has.own hob)
            have HBe := Lib.hid hbe
            have HBl := Lib.hid hbl
            have hm2 := hn2.trans (hbb2.mono hn2.size)
            have HC := Lib.hid (show Has wb2 wb2.heap.size (some (ad0.add p)) (u8s ((zs2.drop p).take (q2 - p))) from (Has.cut ((HO.out.below hm2 (Nat.le_refl _)).more hm2.size) p (q2 - p)))
            have HS := Lib.hid (show sameB bs2 ((zs2.drop p).take (q2 - p)) = true by rw [HBe.out]; simp [sameB])
            have hbm2 : bs2.length ≤ 600 := by omega
            clear hbo hob hbe hbl
            go_wp2_with fail
            refine (same_is rfl HLen2.out (by omega) HS.out _ HOb.out HC.out).mono ?_
            rintro e ws2 ⟨rfl, nq2, rfl⟩
            have ho2 := below_drewN hm2 nq2
            clear HOb HBe HBl HC HS
            go_wp2_with fail
            refine (wakes_any _).mono ?_
            rintro e wz ⟨rfl, hbz⟩
            go_wp2_with fail
            go_ret
            exact ⟨rfl, ho2.trans (hbz.mono ho2.size)⟩
          · exact absurd (HB2.out.symm.trans hbo) (by simp)
      · obtain ⟨q1, hq, hpq1, hqn1, hbo1, htl1⟩ := taken_back (f := tkParts) tells_parts HZ.out (show p ≤ zs2.length by rw [HL.out]; omega) ht1
        subst hq
        have htp1 : 0 < (listToks Pt.toks l1).length := by simp [listToks]
        rw [HL.out] at hqn1
        have hlt1 : p < c := by omega
        have HT1 := Lib.hid ht1
        have HB1 := Lib.hid hbo1
        have HLen1 := Lib.hid (show ((zs2.drop p).take (q1 - p)).length = q1 - p by rw [List.length_take, List.length_drop, HL.out]; omega)
        clear ht1 hbo1
        go_wp2_with fail
        refine (take_parts_yes HL.out HT1.out (by omega) (by omega) HZ.out _ ho0.size (HO.out.below ho0 (Nat.le_refl _))).mono ?_
        rintro e wa1 ⟨A1, c1, rfl, hk1, hl1, own, hba1⟩
        have hn1 := ho0.trans (hba1.mono ho0.size)
        have HR1 := Lib.hid (own.has)
        clear own
        go_wp2_with fail
        refine (pack_parts l1 A1 c1 _ HR1.out (by omega)).mono ?_
        rintro e wb1 ⟨hbb1, ⟨bs1, Ab1, cb1, hbo, rfl, hob⟩ | ⟨hbo, rfl⟩⟩
        · have hbe : bs1 = (zs2.drop p).take (q1 - p) := Option.some.inj (hbo.symm.trans HB1.out)
          have hbl : bs1.length = q1 - p := by rw [hbe]; exact HLen1.out
          have HOb := Lib.hid (Has.own hob)
          have HBe := Lib.hid hbe
          have HBl := Lib.hid hbl
          have hm1 := hn1.trans (hbb1.mono hn1.size)
          have HC := Lib.hid (show Has wb1 wb1.heap.size (some (ad0.add p)) (u8s ((zs2.drop p).take (q1 - p))) from (Has.cut ((HO.out.below hm1 (Nat.le_refl _)).more hm1.size) p (q1 - p)))
          have HS := Lib.hid (show sameB bs1 ((zs2.drop p).take (q1 - p)) = true by rw [HBe.out]; simp [sameB])
          have hbm1 : bs1.length ≤ 600 := by omega
          clear hbo hob hbe hbl
          go_wp2_with fail
          refine (same_is rfl HLen1.out (by omega) HS.out _ HOb.out HC.out).mono ?_
          rintro e ws1 ⟨rfl, nq1, rfl⟩
          have ho1 := below_drewN hm1 nq1
          clear HOb HBe HBl HC HS
          rcases ht2 : tkBatch zs2 p with _ | ⟨l2, j2⟩
          · have HT2 := Lib.hid ht2
            clear ht2
            go_wp2_with fail
            refine (take_batch_no HL.out HT2.out (by omega) (by omega) HZ.out _ ho1.size (HO.out.below ho1 (Nat.le_refl _))).mono ?_
            rintro e wa2 ⟨rfl, hba2⟩
            have hn2 := ho1.trans (hba2.mono ho1.size)
            go_wp2_with fail
            refine (wakes_any _).mono ?_
            rintro e wz ⟨rfl, hbz⟩
            go_wp2_with fail
            go_ret
            exact ⟨rfl, hn2.trans (hbz.mono hn2.size)⟩
          · obtain ⟨q2, hq, hpq2, hqn2, hbo2, htl2⟩ := taken_back (f := tkBatch) tells_batch HZ.out (show p ≤ zs2.length by rw [HL.out]; omega) ht2
            subst hq
            have htp2 : 0 < (listToks Rq.toks l2).length := by simp [listToks]
            rw [HL.out] at hqn2
            have hlt2 : p < c := by omega
            have HT2 := Lib.hid ht2
            have HB2 := Lib.hid hbo2
            have HLen2 := Lib.hid (show ((zs2.drop p).take (q2 - p)).length = q2 - p by rw [List.length_take, List.length_drop, HL.out]; omega)
            clear ht2 hbo2
            go_wp2_with fail
            refine (take_batch_yes HL.out HT2.out (by omega) (by omega) HZ.out _ ho1.size (HO.out.below ho1 (Nat.le_refl _))).mono ?_
            rintro e wa2 ⟨A2, c2, rfl, hk2, hl2, own, hba2⟩
            have hn2 := ho1.trans (hba2.mono ho1.size)
            have HR2 := Lib.hid (Has.ownS own)
            clear own
            go_wp2_with fail
            refine (pack_batch l2 A2 c2 _ HR2.out (by omega)).mono ?_
            rintro e wb2 ⟨hbb2, ⟨bs2, Ab2, cb2, hbo, rfl, hob⟩ | ⟨hbo, rfl⟩⟩
            · have hbe : bs2 = (zs2.drop p).take (q2 - p) := Option.some.inj (hbo.symm.trans HB2.out)
              have hbl : bs2.length = q2 - p := by rw [hbe]; exact HLen2.out
              have HOb := Lib.hid (Has.own hob)
              have HBe := Lib.hid hbe
              have HBl := Lib.hid hbl
              have hm2 := hn2.trans (hbb2.mono hn2.size)
              have HC := Lib.hid (show Has wb2 wb2.heap.size (some (ad0.add p)) (u8s ((zs2.drop p).take (q2 - p))) from (Has.cut ((HO.out.below hm2 (Nat.le_refl _)).more hm2.size) p (q2 - p)))
              have HS := Lib.hid (show sameB bs2 ((zs2.drop p).take (q2 - p)) = true by rw [HBe.out]; simp [sameB])
              have hbm2 : bs2.length ≤ 600 := by omega
              clear hbo hob hbe hbl
              go_wp2_with fail
              refine (same_is rfl HLen2.out (by omega) HS.out _ HOb.out HC.out).mono ?_
              rintro e ws2 ⟨rfl, nq2, rfl⟩
              have ho2 := below_drewN hm2 nq2
              clear HOb HBe HBl HC HS
              go_wp2_with fail
              refine (wakes_any _).mono ?_
              rintro e wz ⟨rfl, hbz⟩
              go_wp2_with fail
              go_ret
              exact ⟨rfl, ho2.trans (hbz.mono ho2.size)⟩
            · exact absurd (HB2.out.symm.trans hbo) (by simp)
        · exact absurd (HB1.out.symm.trans hbo) (by simp)
    · exact absurd (HB0.out.symm.trans hbo) (by simp)

theorem packBack_walk (A : Option Addr) (c : Nat) (zs : List Int) (i : Int) (w : World) (w0 : IsList .u8 w A zs c) (w1 : (Lit.int .i64 i).wf = true) :
    Calls Try.prog 10 #[.slice A zs.length c, .int .i64 i] w fun e w' => e = .returned (.bool true) ∧ Below w.heap.size w w' := by
  have hi := wf_i64 w1
  have hz : ∀ z ∈ zs, 0 ≤ z ∧ z ≤ 255 := fun z hz => wf_u8 (w0.fits z hz)
  have hc := w0.most
  have hl := w0.le
  have hh : Has w w.heap.size A (u8s zs) := w0.has
  unfold maxLen at hc
  by_cases hlen : 600 < zs.length
  · have h1 := Int.emod_nonneg i (show (601 : Int) ≠ 0 by omega)
    have h2 := Int.emod_lt_of_pos i (show (0 : Int) < 601 by omega)
    exact packBack_long A c zs.length (zs.take 600) i (i % 601).toNat w (by rw [List.length_take]; omega) hlen hl (by omega) (fun z hzz => hz z (List.mem_of_mem_take hzz)) (hh.take 600) (by omega) hi (by omega)
  · have h1 := Int.emod_nonneg i (show ((zs.length : Int) + 1) ≠ 0 by omega)
    have h2 := Int.emod_lt_of_pos i (show (0 : Int) < (zs.length : Int) + 1 by omega)
    exact packBack_short A c zs.length zs i (i % ((zs.length : Int) + 1)).toNat w rfl (by omega) hl (by omega) hz hh (by omega) hi (by omega)
end Go.Proofs.Ytkkaedcgpbjbmaa
