/- The walk of SlotOrders: it returns true for any int, ints and int. -/
import Derived.Test.YthlmalangjgioaaSlotTwo
namespace Go.Proofs.Ythlmalangjgioaa
open Go.RowKit
set_option linter.unusedSimpArgs false

def ox : Rq := ⟨1, 2, 0, 0, 0, 0⟩
def OrS (n : Nat) (ch : Option (List Rq)) (P C : List Bool) : Sx := ⟨ch, tellM n P 0 [ox], tellM n C 50 [ox]⟩
theorem or_new (n : Nat) : Sx.new n = OrS n none noM noM := by
  unfold OrS noM
  rw [tellM_zero, tellM_zero]; rfl
theorem or_v4 {n k : Nat} {ch : Option (List Rq)} {P C : List Bool} (h : k < n) (hk : k < P.length) : ∃ c, (OrS n ch P C).vote 4 (k : Int) (k : Int) [ox] = (c, OrS n ch (P.set k true) C) := by
  obtain ⟨c, hc⟩ := got hk
  have := tellM_any (n := n) h hc 0 [ox]
  rw [Int.zero_add] at this
  refine ⟨!c, ?_⟩
  unfold Sx.vote OrS
  rw [if_pos rfl]
  simp only
  rw [this]
theorem or_v5 {n k : Nat} {ch : Option (List Rq)} {P C : List Bool} (h : k < n) (hk : k < C.length) : ∃ c, (OrS n ch P C).vote 5 (k : Int) (50 + (k : Int)) [ox] = (c, OrS n ch P (C.set k true)) := by
  obtain ⟨c, hc⟩ := got hk
  refine ⟨!c, ?_⟩
  unfold Sx.vote OrS
  rw [if_neg (by omega), if_pos rfl]
  simp only
  rw [tellM_any h hc]
theorem or_p0 (n q : Nat) (P C : List Bool) : (OrS n none P C).prep q = none := rfl
theorem or_c0 {n q : Nat} {P : List Bool} (h0 : 0 < q) (h : (OrS n (some [ox]) P P).prep q = none) : (OrS n (some [ox]) P P).com q = none := by
  have h1 : decS (tellM n P 0 [ox]) [ox] q = none := h
  show comS q (tellM n P 50 [ox]) (tellM n P 50 [ox]) = none
  exact com_tell (by decide) h0 (decS_tell 50 h1)
theorem or_c1 {n q : Nat} {P : List Bool} {l : List Vt} (h0 : 0 < q) (hn : n < 2 * q) (h : (OrS n (some [ox]) P P).prep q = some l) : l.length = q ∧ ∃ l', (OrS n (some [ox]) P P).com q = some ([ox], l') ∧ l'.length = q := by
  have h1 : decS (tellM n P 0 [ox]) [ox] q = some l := h
  obtain ⟨l', h2, h3⟩ := decS_tell2 50 h1
  refine ⟨(decS_is h1).2.2, l', ?_, h3⟩
  show comS q (tellM n P 50 [ox]) (tellM n P 50 [ox]) = _
  exact comS_of h0 (by rw [tellM_len]; exact hn) h2
theorem or_same {n m : Nat} {P C : List Bool} {g g' : Nat → Nat} (h : Mk P m g) (h' : Mk C m g') (hp : ∀ k, (∃ j, j < m ∧ g j = k) ↔ (∃ j, j < m ∧ g' j = k)) (ch : Option (List Rq)) : OrS n ch P P = OrS n ch C C := by
  unfold OrS
  rw [h.tell h' hp, h.tell h' hp]
/-- Which node the place j names. -/
def gz (zs : List Int) (n j : Nat) : Nat := ((zs[j]?).getD 0 % (n : Int)).toNat
theorem gz_is {zs : List Int} {n j k : Nat} {z : Int} (h : zs.drop j = z :: zs.drop (j + 1)) (hk : z % (n : Int) = k) : gz zs n j = k := by
  have : zs[j]? = some z := by
    have := congrArg (fun l => l[0]?) h
    simpa using this
  unfold gz
  rw [this]
  simp [hk]
set_option maxRecDepth 100000 in
set_option maxHeartbeats 4000000 in
theorem slotOrders_walk (a0 : Int) (A : Option Addr) (c : Nat) (zs : List Int) (a2 : Int) (w : World) (w0 : (Lit.int .i64 a0).wf = true) (w1 : IsList .i64 w A zs c) (w2 : (Lit.int .i64 a2).wf = true) :
    Calls Try.prog 3 #[.int .i64 a0, .slice A zs.length c, .int .i64 a2] w fun e w' => e = .returned (.bool true) ∧ Below w.heap.size w w' := by
  obtain ⟨b0, b1⟩ := wf_i64 w0
  obtain ⟨b2, b3⟩ := wf_i64 w2
  have HW4 := Lib.hid (fun w => within_any a0 4 (by omega) (by omega) b0 b1 w)
  have hf1 : 0 ≤ a0 % 4 ∧ a0 % 4 < 4 := ⟨Int.emod_nonneg _ (by omega), Int.emod_lt_of_pos _ (by omega)⟩
  obtain ⟨p, hp⟩ : ∃ p : Nat, a0 % 4 = p := ⟨(a0 % 4).toNat, by omega⟩
  rw [hp] at HW4 hf1
  obtain ⟨q, hq⟩ : ∃ q : Nat, (q : Int) = 2 * (1 + (p : Int)) + 1 := ⟨2 * p + 3, by omega⟩
  obtain ⟨n, hn⟩ : ∃ n : Nat, (n : Int) = 3 * (1 + (p : Int)) + 1 := ⟨3 * p + 4, by omega⟩
  have HQn := Lib.hid (show q ≤ n ∧ n < 2 * q ∧ 0 < q ∧ 0 < n from ⟨by omega, by omega, by omega, by omega⟩)
  have hn13 : n ≤ 13 := by omega
  have hq9 : 0 < q ∧ q ≤ 9 := by omega
  have HNo := Lib.hid (fun (w : World) => (show Calls Try.prog 13 #[.int .i64 (1 + p)] w fun e w' => e = .returned (.int .i64 (n : Int)) ∧ w = w' from by
    have := rnodes_any (1 + p) w
    rwa [nodesS_in (by omega) (by omega), ← hn] at this))
  have HNew := Lib.hid (fun w => rs_new (f := 1 + (p : Int)) (n := n) (by omega) (by omega) hn w w (Below.refl _ _))
  have HNew2 := Lib.hid (fun (wr : World) (sa : Nat) (a1 a2 : Value) (s : Sx) (h : Rs w sa a1 a2 (1 + (p : Int)) s wr) => tw14_new (n := n) h (by omega) (by omega) hn)
  have HQq := Lib.hid hq
  have HL := Lib.hid w1
  obtain ⟨m0, hm0⟩ : ∃ m, zs.length = m := ⟨_, rfl⟩
  have HN := Lib.hid hm0
  have HMx := Lib.hid (show m0 ≤ maxLen by rw [← hm0]; exact Nat.le_trans HL.out.le HL.out.most)
  have HWt := Lib.hid (fun (h : 0 < m0) (h2 : m0 ≤ 40) => fun (w : World) => within_any a2 (m0 : Int) (by omega) (by omega) b2 b3 w)
  simp only [hm0]
  clear w0 w1 w2 b0 b1 b2 b3 hp hn hq hm0
  go_enter Try.func3, Try.ntmps3
  go_wp2_with fail
  refine (HW4.out _).mono ?_
  rintro e wa ⟨rfl, rfl⟩
  go_wp2_with fail
  refine (HNew.out _).mono ?_
  rintro e w1 ⟨sa, v1, v2, rfl, hR, -, -⟩
  have HR := Lib.hid hR
  clear hR
  go_wp2_with fail
  refine (HNew2.out _ _ _ _ _ HR.out).mono ?_
  rintro e w2 ⟨sb, u1, u2, rfl, hT⟩
  have HT := Lib.hid hT
  clear hT HR HNew HNew2
  by_cases h40 : 40 < m0
  · have g40 : decide ((40 : Int) < (m0 : Int)) = true := decide_eq_true (by omega)
    clear h40
    go_wp2_with fail
    refine (wakes14_any _).mono ?_
    rintro e w9 ⟨rfl, hb9⟩
    go_wp2_with fail
    go_ret
    exact ⟨rfl, HT.out.ra.low.trans (hb9.mono HT.out.ra.low.size)⟩
  · have g40 : decide ((40 : Int) < (m0 : Int)) = false := decide_eq_false (by omega)
    have h41 : m0 ≤ 40 := by omega
    have HX := Lib.hid (Blk.new w2 32 #[.int .i64 1, .int .i64 2, .int .i64 0, .int .i64 0, .int .i64 0, .int .i64 0])
    have HT1 := Lib.hid (HT.out.below (wz := w2.alloc (.cells #[.int .i64 1, .int .i64 2, .int .i64 0, .int .i64 0, .int .i64 0, .int .i64 0] 32)) ((Below.refl _ _).alloc (Nat.le_refl _) _))
    clear h40 HT
    go_wp2_with fail
    refine (spre_any HT1.out.ra.sl (has_one ox HX.out) (n := 1) rfl (by omega)).mono ?_
    rintro e w3 ⟨rfl, hp⟩
    have hx := hp.far HT1.out.ra.sl HX.out (by decide) (by decide)
    obtain ⟨x1, x2, ht⟩ := HT1.out.post hp
    rw [show (!(Sx.new n).ch.isSome) = true from rfl]
    have HT2 := Lib.hid (show Tw14 w sa x1 x2 sb u1 u2 (1 + (p : Int)) (OrS n (some [ox]) noM noM) (OrS n none noM noM) w3 from by
      rw [show (Sx.new n).pre [ox] = OrS n (some [ox]) noM noM from by unfold OrS noM; rw [tellM_zero, tellM_zero]; rfl, or_new] at ht
      exact ht)
    obtain ⟨gb, hgb⟩ : ∃ y, w2.heap.size = y := ⟨_, rfl⟩
    rw [hgb] at hx ⊢
    have HX2 := Lib.hid hx
    clear hp hx ht hgb HX HT1
    go_wp2_with fail
    refine (HNo.out _).mono ?_
    rintro e wq ⟨rfl, rfl⟩
    obtain ⟨t, ht⟩ : ∃ t : Nat, m0 = 0 ∨ a2 % (m0 : Int) = t := by
      by_cases h0 : m0 = 0
      · exact ⟨0, Or.inl h0⟩
      · exact ⟨(a2 % (m0 : Int)).toNat, Or.inr (by have := Int.emod_nonneg a2 (show (m0 : Int) ≠ 0 by omega); omega)⟩
    have HTt := Lib.hid ht
    clear ht
    go_wp2_with fail
    go_loopw [13, 14, 15, 86] (fun _ _ _ x wr => ∃ (i : Nat) (bs cs : List Bool) (v1 v2 u1 u2 : Value), x = .int .i64 i ∧ i ≤ m0 ∧ Hid (Mk bs i (gz zs n)) ∧ Hid (Mk cs i (fun j => gz zs n ((j + t) % m0))) ∧ Hid (Tw14 w sa v1 v2 sb u1 u2 (1 + (p : Int)) (OrS n (some [ox]) bs bs) (OrS n none cs cs) wr) ∧ Hid (Blk wr gb 32 #[.int .i64 1, .int .i64 2, .int .i64 0, .int .i64 0, .int .i64 0, .int .i64 0])) (fun _ _ _ x _ => m0 - (intOf x).toNat)
    case atStart => exact ⟨0, noM, noM, x1, x2, u1, u2, rfl, Nat.zero_le _, Mk.zero _, Mk.zero _, HT2, HX2⟩
    case round =>
      clear HT2 HX2
      obtain ⟨i, bs, cs, v1, v2, u1, u2, rfl, hi, HMa, HMb, HT, HX⟩ := hrel
      by_cases hlt : i < m0
      · have hat := HTt.out.resolve_left (by omega)
        have HWm := Lib.hid (HWt.out (by omega) h41)
        rw [hat] at HWm
        have ht1 := Int.emod_lt_of_pos a2 (show 0 < (m0 : Int) by omega)
        rw [hat] at ht1
        clear hat
        obtain ⟨jn, hjn⟩ : ∃ j, (i + t) % m0 = j := ⟨_, rfl⟩
        have hjl : jn < m0 := by rw [← hjn]; exact Nat.mod_lt _ (by omega)
        have hjm : ((i : Int) + (t : Int)) % (m0 : Int) = (jn : Int) := by rw [← hjn, Int.natCast_emod, Int.natCast_add]
        have hjt : ((i : Int) + (t : Int)).tmod (m0 : Int) = (jn : Int) := by rw [Int.tmod_eq_emod_of_nonneg (by omega)]; exact hjm
        obtain ⟨ad, z1, rfl, hab, hc1, hd1, hzm1⟩ := (HT.out.ra.has HL.out.has).int (show i < zs.length by rw [HN.out]; exact hlt)
        obtain ⟨ad', z2, had, hab2, hc2, hd2, hzm2⟩ := (HT.out.ra.has HL.out.has).int (show jn < zs.length by rw [HN.out]; exact hjl)
        obtain rfl : ad = ad' := by injection had
        clear had
        obtain ⟨y1, y2⟩ := wf_i64 (HL.out.fits z1 hzm1)
        obtain ⟨y3, y4⟩ := wf_i64 (HL.out.fits z2 hzm2)
        have hnp : (0 : Int) < n := by have := HQn.out.2.2.2; omega
        have hz0 := Int.emod_nonneg z1 (show (n : Int) ≠ 0 by omega)
        have hz1 := Int.emod_lt_of_pos z1 hnp
        have hz2 := Int.emod_nonneg z2 (show (n : Int) ≠ 0 by omega)
        have hz3 := Int.emod_lt_of_pos z2 hnp
        have HW1 := Lib.hid (fun (w : World) => within_any z1 (n : Int) (by omega) (by omega) y1 y2 w)
        have HW2 := Lib.hid (fun (w : World) => within_any z2 (n : Int) (by omega) (by omega) y3 y4 w)
        obtain ⟨k, hk⟩ : ∃ k : Nat, z1 % (n : Int) = k := ⟨(z1 % (n : Int)).toNat, by omega⟩
        obtain ⟨j, hj⟩ : ∃ k : Nat, z2 % (n : Int) = k := ⟨(z2 % (n : Int)).toNat, by omega⟩
        have HGa := Lib.hid (HMa.out.step (gz_is hd1 hk) (by omega))
        have HGb := Lib.hid (HMb.out.step (k := j) (show gz zs n ((i + t) % m0) = j by rw [hjn]; exact gz_is hd2 hj) (by omega))
        rw [hk] at HW1 hz1
        rw [hj] at HW2 hz3
        have hkn : k < n := by omega
        have hjn2 : j < n := by omega
        have la := HMa.out.len
        have lb := HMb.out.len
        obtain ⟨c1, hv1⟩ := or_v4 (n := n) (ch := some [ox]) (P := bs) (C := bs) hkn (by omega)
        obtain ⟨c2, hv2⟩ := or_v5 (n := n) (ch := some [ox]) (P := bs.set k true) (C := bs) hkn (by omega)
        obtain ⟨c3, hv3⟩ := or_v5 (n := n) (ch := none) (P := cs) (C := cs) hjn2 (by omega)
        obtain ⟨c4, hv4⟩ := or_v4 (n := n) (ch := none) (P := cs) (C := cs.set j true) hjn2 (by omega)
        have HV1 := Lib.hid hv1
        have HV2 := Lib.hid hv2
        have HV3 := Lib.hid hv3
        have HV4 := Lib.hid hv4
        have hwk : IntKind.i64.wrap (50 + (k : Int)) = 50 + (k : Int) := by rw [IntKind.wrap_i64]; omega
        have hwj : IntKind.i64.wrap (50 + (j : Int)) = 50 + (j : Int) := by rw [IntKind.wrap_i64]; omega
        have hlt3 : (i : Int) < (m0 : Int) := by omega
        have hm0 : (0 : Int) < (m0 : Int) := by omega
        have hjl3 : (jn : Int) < (m0 : Int) := by omega
        clear la lb hv1 hv2 hv3 hv4 hk hj hjn hz0 hz2 y1 y2 y3 y4 hzm1 hzm2 hd1 hd2 hab hab2 HMa HMb
        go_wp2_with fail
        refine (HW1.out _).mono ?_
        rintro e wq ⟨rfl, rfl⟩
        go_wp2_with fail
        refine (HWm.out _).mono ?_
        rintro e wq ⟨rfl, rfl⟩
        go_wp2_with fail
        refine (HW2.out _).mono ?_
        rintro e wq ⟨rfl, rfl⟩
        clear hc1 hc2 HW1 HW2 HWm
        go_wp2_with fail
        refine (svote_any HT.out.ra.sl 4 k k (has_one ox HX.out) (n := 1) rfl (by omega)).mono ?_
        rintro e w5 ⟨rfl, hp⟩
        have hx := hp.far HT.out.ra.sl HX.out (by decide) (by decide)
        rw [HV1.out] at hp ⊢
        obtain ⟨x1, x2, ht⟩ := HT.out.post hp
        have HT5 := Lib.hid ht
        have HX5 := Lib.hid hx
        clear hp ht hx HT HX HV1
        go_wp2_with fail
        refine (svote_any HT5.out.ra.sl 5 k (50 + k) (has_one ox HX5.out) (n := 1) rfl (by omega)).mono ?_
        rintro e w6 ⟨rfl, hp⟩
        have hx := hp.far HT5.out.ra.sl HX5.out (by decide) (by decide)
        rw [HV2.out] at hp ⊢
        obtain ⟨y1, y2, ht⟩ := HT5.out.post hp
        have HT6 := Lib.hid ht.swap
        have HX6 := Lib.hid hx
        clear hp ht hx HT5 HX5 HV2
        go_wp2_with fail
        refine (svote_any HT6.out.ra.sl 5 j (50 + j) (has_one ox HX6.out) (n := 1) rfl (by omega)).mono ?_
        rintro e w7 ⟨rfl, hp⟩
        have hx := hp.far HT6.out.ra.sl HX6.out (by decide) (by decide)
        rw [HV3.out] at hp ⊢
        obtain ⟨s1, s2, ht⟩ := HT6.out.post hp
        have HT7 := Lib.hid ht
        have HX7 := Lib.hid hx
        clear hp ht hx HT6 HX6 HV3
        go_wp2_with fail
        refine (svote_any HT7.out.ra.sl 4 j j (has_one ox HX7.out) (n := 1) rfl (by omega)).mono ?_
        rintro e w8 ⟨rfl, hp⟩
        have hx := hp.far HT7.out.ra.sl HX7.out (by decide) (by decide)
        rw [HV4.out] at hp ⊢
        obtain ⟨r1, r2, ht⟩ := HT7.out.post hp
        have HT8 := Lib.hid ht.swap
        have HX8 := Lib.hid hx
        clear hp ht hx HT7 HX7 HV4
        go_wp2_with fail
        go_roundw
        case rel => exact ⟨i + 1, bs.set k true, cs.set j true, y1, y2, r1, r2, by go_num, by omega, HGa, HGb, HT8, HX8⟩
        case measure => simp [intOf]; omega
      · obtain rfl : i = m0 := by omega
        have HP := Lib.hid (prep_none HT.out.rb HQq.out (or_p0 n q cs cs))
        have HEq := Lib.hid (show OrS n (some [ox]) cs cs = OrS n (some [ox]) bs bs from (or_same (n := n) HMa.out HMb.out (fun k => by
          rcases Nat.eq_zero_or_pos i with h0 | h0
          · subst h0
            exact ⟨fun ⟨j, hj, _⟩ => by omega, fun ⟨j, hj, _⟩ => by omega⟩
          · exact turned h0 t (gz zs n) k) (some [ox])).symm)
        go_wp2_with fail
        refine HP.out.mono ?_
        rintro e w5 ⟨A5, d5, rfl, hb⟩
        have HT5 := Lib.hid (HT.out.below hb).swap
        have HX5 := Lib.hid (HX.out.below hb HX.out.lt)
        clear hb HP HT HX
        go_wp2_with fail
        refine (spre_any HT5.out.ra.sl (has_one ox HX5.out) (n := 1) rfl (by omega)).mono ?_
        rintro e w6 ⟨rfl, hp⟩
        obtain ⟨r1, r2, ht⟩ := HT5.out.post hp
        have HT6 := Lib.hid (show Tw14 w sa v1 v2 sb r1 r2 (1 + (p : Int)) (OrS n (some [ox]) bs bs) (OrS n (some [ox]) bs bs) w6 from by
          have := ht.swap
          rw [show (OrS n none cs cs).pre [ox] = OrS n (some [ox]) cs cs from rfl, HEq.out] at this
          exact this)
        rw [show (!(OrS n none cs cs).ch.isSome) = true from rfl]
        clear hp ht HT5 HX5 HEq
        cases hpr : (OrS n (some [ox]) bs bs).prep q with
        | none =>
          have HPr := Lib.hid hpr
          have HCo := Lib.hid (or_c0 HQn.out.2.2.1 hpr)
          clear hpr
          have HP1 := Lib.hid (prep_none HT6.out.ra HQq.out HPr.out)
          go_wp2_with fail
          refine HP1.out.mono ?_
          rintro e w7 ⟨A7, d7, rfl, hb⟩
          have HT7 := Lib.hid (HT6.out.below hb)
          clear hb HP1 HT6
          have HP2 := Lib.hid (prep_none HT7.out.rb HQq.out HPr.out)
          go_wp2_with fail
          refine HP2.out.mono ?_
          rintro e w8 ⟨A8, d8, rfl, hb⟩
          have HT8 := Lib.hid (HT7.out.below hb)
          clear hb HP2 HT7
          have HC1 := Lib.hid (com_none HT8.out.ra HQq.out HCo.out)
          go_wp2_with fail
          refine HC1.out.mono ?_
          rintro e w9 ⟨A9, d9, B9, e9, rfl, hb⟩
          have HT9 := Lib.hid (HT8.out.below hb)
          clear hb HC1 HT8
          have HC2 := Lib.hid (com_none HT9.out.rb HQq.out HCo.out)
          go_wp2_with fail
          refine HC2.out.mono ?_
          rintro e w10 ⟨A10, d10, B10, e10, rfl, hb⟩
          have HT10 := Lib.hid (HT9.out.below hb)
          clear hb HC2 HT9
          have HS1 := Lib.hid (fun (w : World) => same_votes_is (A := A7) (A' := A8) (c := d7) (c' := d8) (la := 0) (lb := 0) (zs := []) (ys := []) (r := true) (B := 0) rfl rfl (by omega) (by decide +kernel) w (Has.nil _ _ _) (Has.nil _ _ _))
          have HS2 := Lib.hid (fun (w : World) => same_reqs_is (A := A9) (A' := A10) (c := d9) (c' := d10) (la := 0) (lb := 0) (zs := []) (ys := []) (r := true) (B := 0) rfl rfl (by omega) (by decide +kernel) w (Has.nil _ _ _) (Has.nil _ _ _))
          have HS3 := Lib.hid (fun (w : World) => same_votes_is (A := B9) (A' := B10) (c := e9) (c' := e10) (la := 0) (lb := 0) (zs := []) (ys := []) (r := true) (B := 0) rfl rfl (by omega) (by decide +kernel) w (Has.nil _ _ _) (Has.nil _ _ _))
          go_wp2_with fail
          refine (HS1.out _).mono ?_
          rintro e w11 ⟨rfl, m1, rfl⟩
          go_wp2_with fail
          refine (HS2.out _).mono ?_
          rintro e w11 ⟨rfl, m2, rfl⟩
          go_wp2_with fail
          refine (HS3.out _).mono ?_
          rintro e w11 ⟨rfl, m3, rfl⟩
          have HF := Lib.hid (HT10.out.drewN (m1 + m2 + m3)).ra.low
          go_wp2_with fail
          refine (wakes14_any _).mono ?_
          rintro e w12 ⟨rfl, hb12⟩
          go_wp2_with fail
          go_ret
          exact ⟨rfl, HF.out.trans (hb12.mono HF.out.size)⟩
        | some l =>
          have HPr := Lib.hid hpr
          obtain ⟨hll, l', hco, hll'⟩ := or_c1 HQn.out.2.2.1 HQn.out.2.1 hpr
          have HCo := Lib.hid hco
          have HLl := Lib.hid (And.intro hll hll')
          clear hpr hco hll hll'
          have HP1 := Lib.hid (prep_some HT6.out.ra HQq.out HPr.out HLl.out.1)
          go_wp2_with fail
          refine HP1.out.mono ?_
          rintro e w7 ⟨A7, d7, rfl, ho7, hb⟩
          have HT7 := Lib.hid (HT6.out.below hb)
          have HO7 := Lib.hid ho7
          clear hb ho7 HP1 HT6
          have HP2 := Lib.hid (prep_some HT7.out.rb HQq.out HPr.out HLl.out.1)
          go_wp2_with fail
          refine HP2.out.mono ?_
          rintro e w8 ⟨A8, d8, rfl, ho8, hb⟩
          have HT8 := Lib.hid (HT7.out.below hb)
          have HO8 := Lib.hid (And.intro (below_own HO7.out hb (Nat.le_refl _)) ho8)
          clear hb ho8 HP2 HT7 HO7
          have HC1 := Lib.hid (com_some HT8.out.ra HQq.out HCo.out HLl.out.2 (n := 1) rfl)
          go_wp2_with fail
          refine HC1.out.mono ?_
          rintro e w9 ⟨A9, d9, B9, e9, rfl, hr9, hv9, hb⟩
          have HT9 := Lib.hid (HT8.out.below hb)
          have HO9 := Lib.hid (And.intro (below_own HO8.out.1 hb (Nat.le_refl _)) (And.intro (below_own HO8.out.2 hb (Nat.le_refl _)) (And.intro hr9 hv9)))
          clear hb hr9 hv9 HC1 HT8 HO8
          have HC2 := Lib.hid (com_some HT9.out.rb HQq.out HCo.out HLl.out.2 (n := 1) rfl)
          go_wp2_with fail
          refine HC2.out.mono ?_
          rintro e w10 ⟨A10, d10, B10, e10, rfl, hr10, hv10, hb⟩
          have HT10 := Lib.hid (HT9.out.below hb)
          have HO10 := Lib.hid (And.intro (below_own HO9.out.1 hb (Nat.le_refl _)) (And.intro (below_own HO9.out.2.1 hb (Nat.le_refl _)) (And.intro (below_own HO9.out.2.2.1 hb (Nat.le_refl _)) (And.intro (below_own HO9.out.2.2.2 hb (Nat.le_refl _)) (And.intro hr10 hv10)))))
          clear hb hr10 hv10 HC2 HT9 HO9
          have HS1 := Lib.hid (same_votes_is (A := A7) (A' := A8) (c := d7) (c' := d8) (la := q) (lb := q) (zs := l) (ys := l) (r := true) HLl.out.1 HLl.out.1 (by omega) (sameL_self' l) w10 (has_rows HO10.out.1) (has_rows HO10.out.2.1))
          have HS2 := Lib.hid (fun m => same_reqs_is (A := A9) (A' := A10) (c := d9) (c' := d10) (la := 1) (lb := 1) (zs := [ox]) (ys := [ox]) (r := true) rfl rfl (by omega) (sameL_self' [ox]) (w10.drewN m) ((has_rows HO10.out.2.2.1).drewN m) ((has_rows HO10.out.2.2.2.2.1).drewN m))
          have HS3 := Lib.hid (fun m => same_votes_is (A := B9) (A' := B10) (c := e9) (c' := e10) (la := q) (lb := q) (zs := l') (ys := l') (r := true) HLl.out.2 HLl.out.2 (by omega) (sameL_self' l') (w10.drewN m) ((has_rows HO10.out.2.2.2.1).drewN m) ((has_rows HO10.out.2.2.2.2.2).drewN m))
          go_wp2_with fail
          refine HS1.out.mono ?_
          rintro e w11 ⟨rfl, m1, rfl⟩
          go_wp2_with fail
          refine (HS2.out _).mono ?_
          rintro e w11 ⟨rfl, m2, rfl⟩
          go_wp2_with fail
          refine (HS3.out _).mono ?_
          rintro e w11 ⟨rfl, m3, rfl⟩
          have HF := Lib.hid (HT10.out.drewN (m1 + m2 + m3)).ra.low
          go_wp2_with fail
          refine (wakes14_any _).mono ?_
          rintro e w12 ⟨rfl, hb12⟩
          go_wp2_with fail
          go_ret
          exact ⟨rfl, HF.out.trans (hb12.mono HF.out.size)⟩
end Go.Proofs.Ythlmalangjgioaa
