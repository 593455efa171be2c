/- The walk of SlotQuorums: it returns true for any int and acts. -/
import Derived.Test.YthlmalangjgioaaSlotTwo
import Derived.Test.YthlmalangjgioaaActs14
namespace Go.Proofs.Ythlmalangjgioaa
open Go.RowKit
set_option linter.unusedSimpArgs false

def qy : Rq := ⟨0, 2, 0, 0, 0, 0⟩
/-- Two slots with the same votes. -/
def Qx (b : Rq) (P C : List Vo) : Sx := ⟨some [b], P, C⟩
theorem qx_vote {P C : List Vo} {kd k sg : Int} {z : List Rq} (hk : kd = 4 ∨ kd = 5) (h : 0 ≤ k) (hP : k < P.length) (hC : k < C.length) : ∃ r P' C', P'.length = P.length ∧ C'.length = C.length ∧ (∀ b, (Qx b P C).vote kd k sg z = (r, Qx b P' C')) ∧ ∀ b, (Qx b P' C').voted kd k = true := by
  obtain ⟨n, rfl⟩ := Int.eq_ofNat_of_zero_le h
  have key : ∀ (L : List Vo), (n : Int) < L.length → hadS (votS L n sg z).2 n = true := fun L hL => by
    have hn : n < L.length := by omega
    obtain ⟨x, hx⟩ : ∃ x, L[n]? = some x := ⟨_, List.getElem?_eq_getElem hn⟩
    cases hc : x.ca with
    | true => rw [votS_had hx hc, hadS_at hx]; exact hc
    | false => rw [votS_new hx hc, hadS_at (x := ⟨true, sg, z⟩) (by rw [List.getElem?_set, if_pos rfl, if_pos hn])]
  rcases hk with rfl | rfl
  · refine ⟨(votS P n sg z).1, (votS P n sg z).2, C, votS_len _ _ _ _, rfl, fun b => ?_, fun b => ?_⟩
    · unfold Sx.vote Qx; rw [if_pos rfl]
    · unfold Sx.voted Qx; rw [if_pos rfl]; exact key P hP
  · refine ⟨(votS C n sg z).1, P, (votS C n sg z).2, rfl, votS_len _ _ _ _, fun b => ?_, fun b => ?_⟩
    · unfold Sx.vote Qx; rw [if_neg (by omega), if_pos rfl]
    · unfold Sx.voted Qx; rw [if_neg (by omega), if_pos rfl]; exact key C hC
theorem qx_one {P C : List Vo} {q : Nat} (hq : P.length < 2 * q) : (((Qx wk14 P C).prep q).isSome && ((Qx qy P C).prep q).isSome) = false := by
  cases h1 : (Qx wk14 P C).prep q with
  | none => rfl
  | some v =>
    cases h2 : (Qx qy P C).prep q with
    | none => rfl
    | some u =>
      have h3 : decS P [wk14] q = some v := h1
      have h4 : decS P [qy] q = some u := h2
      exact absurd (decS_one hq h3 h4) (by decide)
/-- The law's state. -/
structure Qu14 (w : World) (sa sb gx gy n : Nat) (f : Int) (P C : List Vo) (v1 v2 u1 u2 : Value) (wr : World) : Prop where
  tw : Tw14 w sa v1 v2 sb u1 u2 f (Qx wk14 P C) (Qx qy P C) wr
  bx : Blk wr gx 32 #[.int .i64 0, .int .i64 1, .int .i64 0, .int .i64 0, .int .i64 0, .int .i64 0]
  by_ : Blk wr gy 32 #[.int .i64 0, .int .i64 2, .int .i64 0, .int .i64 0, .int .i64 0, .int .i64 0]
  lP : P.length = n
  lC : C.length = n
section
variable {w wr wz : World} {sa sb gx gy n : Nat} {f : Int} {P C P' C' : List Vo} {v1 v2 u1 u2 : Value}
theorem Qu14.below (h : Qu14 w sa sb gx gy n f P C v1 v2 u1 u2 wr) (hb : Below wr.heap.size wr wz) : Qu14 w sa sb gx gy n f P C v1 v2 u1 u2 wz := ⟨h.tw.below hb, h.bx.below hb h.bx.lt, h.by_.below hb h.by_.lt, h.lP, h.lC⟩
theorem Qu14.drewN (h : Qu14 w sa sb gx gy n f P C v1 v2 u1 u2 wr) (m : Nat) : Qu14 w sa sb gx gy n f P C v1 v2 u1 u2 (wr.drewN m) := ⟨h.tw.drewN m, h.bx, h.by_, h.lP, h.lC⟩
end
set_option maxRecDepth 100000 in
set_option maxHeartbeats 4000000 in
theorem slotQuorums_walk (a0 : Int) (A : Option Addr) (c : Nat) (zs : List Ac) (w : World) (w0 : (Lit.int .i64 a0).wf = true) (w1 : IsActs w A zs c) :
    Calls Try.prog 6 #[.int .i64 a0, .slice A zs.length c] w fun e w' => e = .returned (.bool true) ∧ Below w.heap.size w w' := by
  obtain ⟨b0, b1⟩ := wf_i64 w0
  have HW4 := Lib.hid (fun w => within_any a0 4 (by omega) (by omega) b0 b1 w)
  have hf1 : 0 ≤ a0 % 4 ∧ a0 % 4 < 4 := ⟨Int.emod_nonneg _ (by omega), Int.emod_lt_of_pos _ (by omega)⟩
  obtain ⟨p, hp⟩ : ∃ p : Nat, a0 % 4 = p := ⟨(a0 % 4).toNat, by omega⟩
  rw [hp] at HW4 hf1
  obtain ⟨q, hq⟩ : ∃ q : Nat, (q : Int) = 2 * (1 + (p : Int)) + 1 := ⟨2 * p + 3, by omega⟩
  obtain ⟨n, hn⟩ : ∃ n : Nat, (n : Int) = 3 * (1 + (p : Int)) + 1 := ⟨3 * p + 4, by omega⟩
  have HQn := Lib.hid (show q ≤ n ∧ n < 2 * q ∧ 0 < q ∧ 0 < n from ⟨by omega, by omega, by omega, by omega⟩)
  have hn13 : n ≤ 13 := by omega
  have HNo := Lib.hid (fun (w : World) => (show Calls Try.prog 13 #[.int .i64 (1 + p)] w fun e w' => e = .returned (.int .i64 (n : Int)) ∧ w' = w from by
    have := rnodes_any (1 + p) w
    rw [nodesS_in (by omega) (by omega), ← hn] at this
    exact this.mono fun _ _ he => ⟨he.1, he.2.symm⟩))
  have HNew := Lib.hid (fun w => rs_new (f := 1 + (p : Int)) (n := n) (by omega) (by omega) hn w w (Below.refl _ _))
  have HNew2 := Lib.hid (fun (wr : World) (sa : Nat) (a1 a2 : Value) (s : Sx) (h : Rs w sa a1 a2 (1 + (p : Int)) s wr) => tw14_new (n := n) h (by omega) (by omega) hn)
  have HQq := Lib.hid hq
  have HL := Lib.hid w1
  obtain ⟨m0, hm0⟩ : ∃ m, zs.length = m := ⟨_, rfl⟩
  have HN := Lib.hid hm0
  have HMx := Lib.hid (show m0 ≤ maxLen by rw [← hm0]; exact Nat.le_trans HL.out.le HL.out.most)
  simp only [hm0]
  clear w0 w1 b0 b1 hp hn hq hm0
  go_enter Try.func6, Try.ntmps6
  go_wp2_with fail
  refine (HW4.out _).mono ?_
  rintro e wa ⟨rfl, rfl⟩
  go_wp2_with fail
  refine (HNew.out _).mono ?_
  rintro e w1 ⟨sa, v1, v2, rfl, hR, -, -⟩
  have HR := Lib.hid hR
  clear hR
  go_wp2_with fail
  refine (HNew2.out _ _ _ _ _ HR.out).mono ?_
  rintro e w2 ⟨sb, u1, u2, rfl, hT⟩
  have HX := Lib.hid ((Blk.new w2 32 #[.int .i64 0, .int .i64 1, .int .i64 0, .int .i64 0, .int .i64 0, .int .i64 0]).alloc (.cells #[.int .i64 0, .int .i64 2, .int .i64 0, .int .i64 0, .int .i64 0, .int .i64 0] 32))
  have HY := Lib.hid (Blk.new1 w2 (.cells #[.int .i64 0, .int .i64 1, .int .i64 0, .int .i64 0, .int .i64 0, .int .i64 0] 32) 32 #[.int .i64 0, .int .i64 2, .int .i64 0, .int .i64 0, .int .i64 0, .int .i64 0])
  have HT := Lib.hid (hT.below (wz := (w2.alloc (.cells #[.int .i64 0, .int .i64 1, .int .i64 0, .int .i64 0, .int .i64 0, .int .i64 0] 32)).alloc (.cells #[.int .i64 0, .int .i64 2, .int .i64 0, .int .i64 0, .int .i64 0, .int .i64 0] 32)) (((Below.refl _ _).alloc (Nat.le_refl _) _).alloc (by simp) _))
  clear hT HR HNew HNew2
  go_wp2_with fail
  refine (spre_any HT.out.ra.sl (has_one wk14 HX.out) (n := 1) rfl (by omega)).mono ?_
  rintro e w3 ⟨rfl, hp⟩
  have hx := hp.far HT.out.ra.sl HX.out (by decide) (by decide)
  have hy := hp.far HT.out.ra.sl HY.out (by decide) (by decide)
  obtain ⟨x1, x2, ht⟩ := HT.out.post hp
  rw [show (!(Sx.new n).ch.isSome) = true from rfl]
  obtain ⟨gx, hgx⟩ : ∃ y, w2.heap.size = y := ⟨_, rfl⟩
  obtain ⟨gy, hgy⟩ : ∃ y, w2.heap.size + 1 = y := ⟨_, rfl⟩
  rw [hgy] at hy ⊢
  rw [hgx] at hx ⊢
  have HX3 := Lib.hid hx
  have HY3 := Lib.hid hy
  have HT3 := Lib.hid ht.swap
  clear hp hx hy ht hgx hgy HX HY HT
  go_wp2_with fail
  refine (spre_any HT3.out.ra.sl (has_one qy HY3.out) (n := 1) rfl (by omega)).mono ?_
  rintro e w4 ⟨rfl, hp⟩
  have hx := hp.far HT3.out.ra.sl HX3.out (by decide) (by decide)
  have hy := hp.far HT3.out.ra.sl HY3.out (by decide) (by decide)
  obtain ⟨y1, y2, ht⟩ := HT3.out.post hp
  rw [show (!(Sx.new n).ch.isSome) = true from rfl]
  have HS0 := Lib.hid (show Qu14 w sa sb gx gy n (1 + (p : Int)) (List.replicate n offV) (List.replicate n offV) x1 x2 y1 y2 w4 from ⟨ht.swap, hx, hy, List.length_replicate, List.length_replicate⟩)
  clear hp hx hy ht HX3 HY3 HT3
  go_wp2_with fail
  go_loopw [11, 12, 13, 14] (fun x _ _ _ wr => ∃ (i : Nat) (P C : List Vo) (v1 v2 u1 u2 : Value), x = .int .i64 i ∧ i ≤ m0 ∧ i ≤ 80 ∧ Hid (Qu14 w sa sb gx gy n (1 + (p : Int)) P C v1 v2 u1 u2 wr)) (fun x _ _ _ _ => m0 - (intOf x).toNat)
  case atStart => exact ⟨0, _, _, x1, x2, y1, y2, rfl, Nat.zero_le _, Nat.zero_le _, HS0⟩
  case round =>
    clear HS0
    obtain ⟨i, P, C, v1, v2, u1, u2, rfl, hi, hi80, HS⟩ := hrel
    by_cases hlt : i < m0 ∧ i < 80
    · obtain ⟨hlt1, hlt2⟩ := hlt
      have hil : i < zs.length := by rw [HN.out]; exact hlt1
      obtain ⟨ad, rfl, hab, hA⟩ := act_at (HS.out.tw.ra.has HL.out.has) hil
      have hcm := HL.out.came _ (List.getElem_mem hil)
      obtain ⟨x, hx⟩ : ∃ r, zs[i] = r := ⟨_, rfl⟩
      rw [hx] at hA hcm
      obtain ⟨y1, y2⟩ := wf_i64 hcm.nd
      obtain ⟨y3, y4⟩ := wf_i64 hcm.ki
      have hnp : (0 : Int) < n := by have := HQn.out.2.2.2; omega
      have hz0 := Int.emod_nonneg x.nd (show (n : Int) ≠ 0 by omega)
      have hz1 := Int.emod_lt_of_pos x.nd hnp
      have HWz := Lib.hid (fun (w : World) => (show Calls Try.prog 9 #[.int .i64 x.nd, .int .i64 (n : Int)] w fun e w' => e = .returned (.int .i64 (x.nd % (n : Int))) ∧ w' = w from
        (within_any x.nd (n : Int) (by omega) (by omega) y1 y2 w).mono fun _ _ he => ⟨he.1, he.2.symm⟩))
      have HWk := Lib.hid (fun (w : World) => within_any x.ki 2 (by omega) (by omega) y3 y4 w)
      have hk0 : 0 ≤ x.ki % 2 ∧ x.ki % 2 < 2 := ⟨Int.emod_nonneg _ (by omega), Int.emod_lt_of_pos _ (by omega)⟩
      obtain ⟨kk, hkk⟩ : ∃ y, x.ki % 2 = y := ⟨_, rfl⟩
      obtain ⟨k, hk⟩ : ∃ y, x.nd % (n : Int) = y := ⟨_, rfl⟩
      rw [hkk] at HWk hk0
      rw [hk] at HWz hz0 hz1
      have HKd := Lib.hid (show 4 + kk = 4 ∨ 4 + kk = 5 from by omega)
      have HVote := Lib.hid (fun (z : List Rq) => qx_vote (P := P) (C := C) (kd := 4 + kk) (k := k) (sg := 1) (z := z) HKd.out hz0 (by rw [HS.out.lP]; exact hz1) (by rw [HS.out.lC]; exact hz1))
      obtain ⟨wh, hwh⟩ : ∃ y, x.wh = y := ⟨_, rfl⟩
      obtain ⟨r2, hr2⟩ : ∃ y, wh.tmod 2 = y := ⟨_, rfl⟩
      have c4 := hA.c4
      rw [hwh] at c4
      have hwf : fit wh := by rw [← hwh]; exact hcm.wh
      obtain ⟨y5, y6⟩ := wf_i64 hwf
      have hA0 := fun (m : Nat) => (hA.drewN m).c2
      have hA1 := fun (m : Nat) => (hA.drewN m).c1
      obtain ⟨nd, hnd⟩ : ∃ y, x.nd = y := ⟨_, rfl⟩
      obtain ⟨ki, hki⟩ : ∃ y, x.ki = y := ⟨_, rfl⟩
      rw [hnd] at hA0 HWz
      rw [hki] at hA1 HWk
      have hlt3 : (i : Int) < (m0 : Int) := by omega
      have hlt4 : (i : Int) < 80 := by omega
      clear hil hab hA hcm hx y1 y2 y3 y4 hkk hk hwh hwf hnd hki
      by_cases hpar : r2 = 0
      · have hpb : (r2 != 0) = false := by simp [hpar]
        have hpc : (wh.tmod 2 != 0) = false := by rw [hr2]; exact hpb
        obtain ⟨r, P', C', hlP, hlC, hv, hvd⟩ := HVote.out [wk14]
        have HV := Lib.hid hv
        have HVd := Lib.hid hvd
        have HLn := Lib.hid (And.intro hlP hlC)
        clear hpar hlP hlC hv hvd HVote
        go_wp2_with fail
        go_quiet ((first | (go_at_call 13; exact Calls.quiet_of_same (HNo.out _)) | (go_at_call 9; exact Calls.quiet_of_same (HWz.out _))))
        have HSq := Lib.hid (HS.out.drewN nq)
        have hA2 := hA1 nq
        go_wp2_with fail
        refine (HWk.out _).mono ?_
        rintro e wq ⟨rfl, rfl⟩
        clear hA2 hA0 hA1 c4 HWz HWk HS
        obtain ⟨wn, hwn⟩ : ∃ y, wr.drewN nq = y := ⟨_, rfl⟩
        rw [hwn] at HSq ⊢
        clear hwn
        go_wp2_with fail
        refine (svote_any HSq.out.tw.ra.sl (4 + kk) k 1 (has_one wk14 HSq.out.bx) (n := 1) rfl (by omega)).mono ?_
        rintro e w5 ⟨rfl, hp⟩
        have hx := hp.far HSq.out.tw.ra.sl HSq.out.bx (by decide) (by decide)
        have hy := hp.far HSq.out.tw.ra.sl HSq.out.by_ (by decide) (by decide)
        rw [HV.out] at hp ⊢
        obtain ⟨x1, x2, ht⟩ := HSq.out.tw.post hp
        have HX5 := Lib.hid hx
        have HY5 := Lib.hid hy
        have HT5 := Lib.hid ht.swap
        have HLl := Lib.hid (And.intro HSq.out.lP HSq.out.lC)
        clear hp hx hy ht HSq
        go_wp2_with fail
        refine (svote_any HT5.out.ra.sl (4 + kk) k 1 (has_one wk14 HX5.out) (n := 1) rfl (by omega)).mono ?_
        rintro e w6 ⟨rfl, hp⟩
        have hx := hp.far HT5.out.ra.sl HX5.out (by decide) (by decide)
        have hy := hp.far HT5.out.ra.sl HY5.out (by decide) (by decide)
        rw [HV.out] at hp ⊢
        obtain ⟨y1, y2, ht⟩ := HT5.out.post hp
        have HS6 := Lib.hid (show Qu14 w sa sb gx gy n (1 + (p : Int)) P' C' x1 x2 y1 y2 w6 from ⟨ht.swap, hx, hy, HLn.out.1.trans HLl.out.1, HLn.out.2.trans HLl.out.2⟩)
        clear hp hx hy ht HT5 HX5 HY5
        have HVo := Lib.hid (svoted_any HS6.out.tw.ra.sl (4 + kk) k)
        rw [HVd.out] at HVo
        have hrr : (r != r) = false := by simp
        go_wp2_with fail
        refine HVo.out.mono ?_
        rintro e w7 ⟨rfl, rfl⟩
        go_wp2_with fail
        go_roundw
        case rel => exact ⟨i + 1, P', C', x1, x2, y1, y2, by go_num, by omega, by omega, HS6⟩
        case measure => simp [intOf]; omega
      · have hpb : (r2 != 0) = true := by simp [hpar]
        have hpc : (wh.tmod 2 != 0) = true := by rw [hr2]; exact hpb
        obtain ⟨r, P', C', hlP, hlC, hv, hvd⟩ := HVote.out [qy]
        have HV := Lib.hid hv
        have HVd := Lib.hid hvd
        have HLn := Lib.hid (And.intro hlP hlC)
        clear hpar hlP hlC hv hvd HVote
        go_wp2_with fail
        go_quiet ((first | (go_at_call 13; exact Calls.quiet_of_same (HNo.out _)) | (go_at_call 9; exact Calls.quiet_of_same (HWz.out _))))
        have HSq := Lib.hid (HS.out.drewN nq)
        have hA2 := hA1 nq
        go_wp2_with fail
        refine (HWk.out _).mono ?_
        rintro e wq ⟨rfl, rfl⟩
        clear hA2 hA0 hA1 c4 HWz HWk HS
        obtain ⟨wn, hwn⟩ : ∃ y, wr.drewN nq = y := ⟨_, rfl⟩
        rw [hwn] at HSq ⊢
        clear hwn
        go_wp2_with fail
        refine (svote_any HSq.out.tw.ra.sl (4 + kk) k 1 (has_one qy HSq.out.by_) (n := 1) rfl (by omega)).mono ?_
        rintro e w5 ⟨rfl, hp⟩
        have hx := hp.far HSq.out.tw.ra.sl HSq.out.bx (by decide) (by decide)
        have hy := hp.far HSq.out.tw.ra.sl HSq.out.by_ (by decide) (by decide)
        rw [HV.out] at hp ⊢
        obtain ⟨x1, x2, ht⟩ := HSq.out.tw.post hp
        have HX5 := Lib.hid hx
        have HY5 := Lib.hid hy
        have HT5 := Lib.hid ht.swap
        have HLl := Lib.hid (And.intro HSq.out.lP HSq.out.lC)
        clear hp hx hy ht HSq
        go_wp2_with fail
        refine (svote_any HT5.out.ra.sl (4 + kk) k 1 (has_one qy HY5.out) (n := 1) rfl (by omega)).mono ?_
        rintro e w6 ⟨rfl, hp⟩
        have hx := hp.far HT5.out.ra.sl HX5.out (by decide) (by decide)
        have hy := hp.far HT5.out.ra.sl HY5.out (by decide) (by decide)
        rw [HV.out] at hp ⊢
        obtain ⟨y1, y2, ht⟩ := HT5.out.post hp
        have HS6 := Lib.hid (show Qu14 w sa sb gx gy n (1 + (p : Int)) P' C' x1 x2 y1 y2 w6 from ⟨ht.swap, hx, hy, HLn.out.1.trans HLl.out.1, HLn.out.2.trans HLl.out.2⟩)
        clear hp hx hy ht HT5 HX5 HY5
        have HVo := Lib.hid (svoted_any HS6.out.tw.ra.sl (4 + kk) k)
        rw [HVd.out] at HVo
        have hrr : (r != r) = false := by simp
        go_wp2_with fail
        refine HVo.out.mono ?_
        rintro e w7 ⟨rfl, rfl⟩
        go_wp2_with fail
        go_roundw
        case rel => exact ⟨i + 1, P', C', x1, x2, y1, y2, by go_num, by omega, by omega, HS6⟩
        case measure => simp [intOf]; omega
    · have h0 : i < m0 ∧ i = 80 ∨ i = m0 := by omega
      have HOne := Lib.hid (qx_one (P := P) (C := C) (q := q) (by rw [HS.out.lP]; exact HQn.out.2.1))
      have HLow := Lib.hid (HS.out.tw.ra.sl.com_low q)
      have HCm := Lib.hid (show (Qx qy P C).com q = (Qx wk14 P C).com q from rfl)
      obtain ⟨p1, hp1⟩ : ∃ y, (Qx wk14 P C).prep q = y := ⟨_, rfl⟩
      obtain ⟨p2, hp2⟩ : ∃ y, (Qx qy P C).prep q = y := ⟨_, rfl⟩
      obtain ⟨cm, hcm⟩ : ∃ y, (Qx wk14 P C).com q = y := ⟨_, rfl⟩
      rw [hp1, hp2] at HOne
      rw [hcm] at HLow HCm
      have HP1 := Lib.hid (show Calls Try.prog 15 #[.pointer (some ⟨sa, 0, none⟩)] wr fun e w' => ∃ A n d, e = .returned (.tuple #[.slice A n d, .bool p1.isSome]) ∧ Below wr.heap.size wr w' from by
        have := sprep_any HS.out.tw.ra.sl HQq.out
        rw [hp1] at this
        refine this.mono fun e w' ⟨u, he, ho, hb⟩ => ?_
        obtain ⟨A, d, rfl, -, -⟩ := own_slice ho
        exact ⟨A, _, d, he, hb⟩)
      have HP2 := Lib.hid (fun (wz : World) (h : Qu14 w sa sb gx gy n (1 + (p : Int)) P C v1 v2 u1 u2 wz) => show Calls Try.prog 15 #[.pointer (some ⟨sb, 0, none⟩)] wz fun e w' => ∃ A n d, e = .returned (.tuple #[.slice A n d, .bool p2.isSome]) ∧ Below wz.heap.size wz w' from by
        have := sprep_any h.tw.rb.sl HQq.out
        rw [hp2] at this
        refine this.mono fun e w' ⟨u, he, ho, hb⟩ => ?_
        obtain ⟨A, d, rfl, -, -⟩ := own_slice ho
        exact ⟨A, _, d, he, hb⟩)
      obtain ⟨nb, hnb⟩ : ∃ y, (batOf cm).length = y := ⟨_, rfl⟩
      rw [hnb] at HLow
      have HCA := Lib.hid (fun (wz : World) (sc : Nat) (c1 c2 : Value) (s : Sx) (h : Rs w sc c1 c2 (1 + (p : Int)) s wz) (hs : s.com q = cm) => show Calls Try.prog 16 #[.pointer (some ⟨sc, 0, none⟩)] wz fun e w' => ∃ A d A' n' d', e = .returned (.tuple #[.slice A nb d, .slice A' n' d', .bool cm.isSome]) ∧ w'.ownsRow wz.heap.size 32 6 (.slice A nb d) nb (reqCells (batOf cm)) ∧ Below wz.heap.size wz w' from by
        have := scom_any h.sl HQq.out
        rw [hs, hnb] at this
        refine this.mono fun e w' ⟨u, u', he, ho, ho', hb⟩ => ?_
        obtain ⟨A, d, rfl, -, -⟩ := own_slice ho
        obtain ⟨A', d', rfl, -, -⟩ := own_slice ho'
        exact ⟨A, d, A', _, d', he, ho, hb⟩)
      have HNb := Lib.hid hnb
      have HC1 := Lib.hid hcm
      obtain ⟨s1, hs1⟩ : ∃ y, p1.isSome = y := ⟨_, rfl⟩
      obtain ⟨s2, hs2⟩ : ∃ y, p2.isSome = y := ⟨_, rfl⟩
      obtain ⟨s3, hs3⟩ : ∃ y, cm.isSome = y := ⟨_, rfl⟩
      rw [hs1] at HP1 HOne
      rw [hs2] at HP2 HOne
      rw [hs3] at HCA
      clear hlt hi hi80 hp1 hp2 hcm hnb hs1 hs2 hs3
      have h3 : s1 = false ∧ s2 = false ∨ s1 = false ∧ s2 = true ∨ s1 = true ∧ s2 = false := by
        have := HOne.out
        cases s1 <;> cases s2 <;> simp_all
      have h4 : (s3 == s3) = true := by simp
      rcases h0 with ⟨h1, h2⟩ | rfl
      · have h1i : (i : Int) < (m0 : Int) := by omega
        have h80 : decide ((i : Int) < 80) = false := decide_eq_false (by omega)
        clear h2
        rcases h3 with ⟨rfl, rfl⟩ | ⟨rfl, rfl⟩ | ⟨rfl, rfl⟩
        · go_wp2_with fail
          refine HP1.out.mono ?_
          rintro e w5 ⟨A5, n5, d5, rfl, hb⟩
          have HS5 := Lib.hid (HS.out.below hb)
          clear hb HP1 HS
          go_wp2_with fail
          refine (HP2.out _ HS5.out).mono ?_
          rintro e w6 ⟨A6, n6, d6, rfl, hb⟩
          have HS6 := Lib.hid (HS5.out.below hb)
          clear hb HP2 HS5
          go_wp2_with fail
          refine (HCA.out _ _ _ _ _ HS6.out.tw.ra HC1.out).mono ?_
          rintro e w7 ⟨A7, d7, B7, n7, e7, rfl, ho, hb⟩
          have HS7 := Lib.hid (HS6.out.below hb)
          have HO7 := Lib.hid ho
          clear ho hb HS6
          go_wp2_with fail
          refine (HCA.out _ _ _ _ _ HS7.out.tw.rb HCm.out).mono ?_
          rintro e w8 ⟨A8, d8, B8, n8, e8, rfl, ho, hb⟩
          have HS8 := Lib.hid (HS7.out.below hb)
          have HO8 := Lib.hid (And.intro (below_own HO7.out hb (Nat.le_refl _)) ho)
          clear ho hb HS7 HO7
          have HSm := Lib.hid (same_reqs_is (A := A7) (A' := A8) (c := d7) (c' := d8) (la := nb) (lb := nb) (zs := batOf cm) (ys := batOf cm) (r := true) HNb.out HNb.out (by have := HLow.out; omega) (sameL_self' _) w8 (has_rows HO8.out.1) (has_rows HO8.out.2))
          go_wp2_with fail
          refine HSm.out.mono ?_
          rintro e w9 ⟨rfl, m1, rfl⟩
          have HF := Lib.hid (HS8.out.tw.ra.drewN m1).low
          go_wp2_with fail
          refine (wakes14_any _).mono ?_
          rintro e w12 ⟨rfl, hb12⟩
          go_wp2_with fail
          go_ret
          exact ⟨rfl, HF.out.trans (hb12.mono HF.out.size)⟩
        · go_wp2_with fail
          refine HP1.out.mono ?_
          rintro e w5 ⟨A5, n5, d5, rfl, hb⟩
          have HS5 := Lib.hid (HS.out.below hb)
          clear hb HP1 HS
          go_wp2_with fail
          refine (HP2.out _ HS5.out).mono ?_
          rintro e w6 ⟨A6, n6, d6, rfl, hb⟩
          have HS6 := Lib.hid (HS5.out.below hb)
          clear hb HP2 HS5
          go_wp2_with fail
          refine (HCA.out _ _ _ _ _ HS6.out.tw.ra HC1.out).mono ?_
          rintro e w7 ⟨A7, d7, B7, n7, e7, rfl, ho, hb⟩
          have HS7 := Lib.hid (HS6.out.below hb)
          have HO7 := Lib.hid ho
          clear ho hb HS6
          go_wp2_with fail
          refine (HCA.out _ _ _ _ _ HS7.out.tw.rb HCm.out).mono ?_
          rintro e w8 ⟨A8, d8, B8, n8, e8, rfl, ho, hb⟩
          have HS8 := Lib.hid (HS7.out.below hb)
          have HO8 := Lib.hid (And.intro (below_own HO7.out hb (Nat.le_refl _)) ho)
          clear ho hb HS7 HO7
          have HSm := Lib.hid (same_reqs_is (A := A7) (A' := A8) (c := d7) (c' := d8) (la := nb) (lb := nb) (zs := batOf cm) (ys := batOf cm) (r := true) HNb.out HNb.out (by have := HLow.out; omega) (sameL_self' _) w8 (has_rows HO8.out.1) (has_rows HO8.out.2))
          go_wp2_with fail
          refine HSm.out.mono ?_
          rintro e w9 ⟨rfl, m1, rfl⟩
          have HF := Lib.hid (HS8.out.tw.ra.drewN m1).low
          go_wp2_with fail
          refine (wakes14_any _).mono ?_
          rintro e w12 ⟨rfl, hb12⟩
          go_wp2_with fail
          go_ret
          exact ⟨rfl, HF.out.trans (hb12.mono HF.out.size)⟩
        · go_wp2_with fail
          refine HP1.out.mono ?_
          rintro e w5 ⟨A5, n5, d5, rfl, hb⟩
          have HS5 := Lib.hid (HS.out.below hb)
          clear hb HP1 HS
          go_wp2_with fail
          refine (HP2.out _ HS5.out).mono ?_
          rintro e w6 ⟨A6, n6, d6, rfl, hb⟩
          have HS6 := Lib.hid (HS5.out.below hb)
          clear hb HP2 HS5
          go_wp2_with fail
          refine (HCA.out _ _ _ _ _ HS6.out.tw.ra HC1.out).mono ?_
          rintro e w7 ⟨A7, d7, B7, n7, e7, rfl, ho, hb⟩
          have HS7 := Lib.hid (HS6.out.below hb)
          have HO7 := Lib.hid ho
          clear ho hb HS6
          go_wp2_with fail
          refine (HCA.out _ _ _ _ _ HS7.out.tw.rb HCm.out).mono ?_
          rintro e w8 ⟨A8, d8, B8, n8, e8, rfl, ho, hb⟩
          have HS8 := Lib.hid (HS7.out.below hb)
          have HO8 := Lib.hid (And.intro (below_own HO7.out hb (Nat.le_refl _)) ho)
          clear ho hb HS7 HO7
          have HSm := Lib.hid (same_reqs_is (A := A7) (A' := A8) (c := d7) (c' := d8) (la := nb) (lb := nb) (zs := batOf cm) (ys := batOf cm) (r := true) HNb.out HNb.out (by have := HLow.out; omega) (sameL_self' _) w8 (has_rows HO8.out.1) (has_rows HO8.out.2))
          go_wp2_with fail
          refine HSm.out.mono ?_
          rintro e w9 ⟨rfl, m1, rfl⟩
          have HF := Lib.hid (HS8.out.tw.ra.drewN m1).low
          go_wp2_with fail
          refine (wakes14_any _).mono ?_
          rintro e w12 ⟨rfl, hb12⟩
          go_wp2_with fail
          go_ret
          exact ⟨rfl, HF.out.trans (hb12.mono HF.out.size)⟩
      · rcases h3 with ⟨rfl, rfl⟩ | ⟨rfl, rfl⟩ | ⟨rfl, rfl⟩
        · go_wp2_with fail
          refine HP1.out.mono ?_
          rintro e w5 ⟨A5, n5, d5, rfl, hb⟩
          have HS5 := Lib.hid (HS.out.below hb)
          clear hb HP1 HS
          go_wp2_with fail
          refine (HP2.out _ HS5.out).mono ?_
          rintro e w6 ⟨A6, n6, d6, rfl, hb⟩
          have HS6 := Lib.hid (HS5.out.below hb)
          clear hb HP2 HS5
          go_wp2_with fail
          refine (HCA.out _ _ _ _ _ HS6.out.tw.ra HC1.out).mono ?_
          rintro e w7 ⟨A7, d7, B7, n7, e7, rfl, ho, hb⟩
          have HS7 := Lib.hid (HS6.out.below hb)
          have HO7 := Lib.hid ho
          clear ho hb HS6
          go_wp2_with fail
          refine (HCA.out _ _ _ _ _ HS7.out.tw.rb HCm.out).mono ?_
          rintro e w8 ⟨A8, d8, B8, n8, e8, rfl, ho, hb⟩
          have HS8 := Lib.hid (HS7.out.below hb)
          have HO8 := Lib.hid (And.intro (below_own HO7.out hb (Nat.le_refl _)) ho)
          clear ho hb HS7 HO7
          have HSm := Lib.hid (same_reqs_is (A := A7) (A' := A8) (c := d7) (c' := d8) (la := nb) (lb := nb) (zs := batOf cm) (ys := batOf cm) (r := true) HNb.out HNb.out (by have := HLow.out; omega) (sameL_self' _) w8 (has_rows HO8.out.1) (has_rows HO8.out.2))
          go_wp2_with fail
          refine HSm.out.mono ?_
          rintro e w9 ⟨rfl, m1, rfl⟩
          have HF := Lib.hid (HS8.out.tw.ra.drewN m1).low
          go_wp2_with fail
          refine (wakes14_any _).mono ?_
          rintro e w12 ⟨rfl, hb12⟩
          go_wp2_with fail
          go_ret
          exact ⟨rfl, HF.out.trans (hb12.mono HF.out.size)⟩
        · go_wp2_with fail
          refine HP1.out.mono ?_
          rintro e w5 ⟨A5, n5, d5, rfl, hb⟩
          have HS5 := Lib.hid (HS.out.below hb)
          clear hb HP1 HS
          go_wp2_with fail
          refine (HP2.out _ HS5.out).mono ?_
          rintro e w6 ⟨A6, n6, d6, rfl, hb⟩
          have HS6 := Lib.hid (HS5.out.below hb)
          clear hb HP2 HS5
          go_wp2_with fail
          refine (HCA.out _ _ _ _ _ HS6.out.tw.ra HC1.out).mono ?_
          rintro e w7 ⟨A7, d7, B7, n7, e7, rfl, ho, hb⟩
          have HS7 := Lib.hid (HS6.out.below hb)
          have HO7 := Lib.hid ho
          clear ho hb HS6
          go_wp2_with fail
          refine (HCA.out _ _ _ _ _ HS7.out.tw.rb HCm.out).mono ?_
          rintro e w8 ⟨A8, d8, B8, n8, e8, rfl, ho, hb⟩
          have HS8 := Lib.hid (HS7.out.below hb)
          have HO8 := Lib.hid (And.intro (below_own HO7.out hb (Nat.le_refl _)) ho)
          clear ho hb HS7 HO7
          have HSm := Lib.hid (same_reqs_is (A := A7) (A' := A8) (c := d7) (c' := d8) (la := nb) (lb := nb) (zs := batOf cm) (ys := batOf cm) (r := true) HNb.out HNb.out (by have := HLow.out; omega) (sameL_self' _) w8 (has_rows HO8.out.1) (has_rows HO8.out.2))
          go_wp2_with fail
          refine HSm.out.mono ?_
          rintro e w9 ⟨rfl, m1, rfl⟩
          have HF := Lib.hid (HS8.out.tw.ra.drewN m1).low
          go_wp2_with fail
          refine (wakes14_any _).mono ?_
          rintro e w12 ⟨rfl, hb12⟩
          go_wp2_with fail
          go_ret
          exact ⟨rfl, HF.out.trans (hb12.mono HF.out.size)⟩
        · go_wp2_with fail
          refine HP1.out.mono ?_
          rintro e w5 ⟨A5, n5, d5, rfl, hb⟩
          have HS5 := Lib.hid (HS.out.below hb)
          clear hb HP1 HS
          go_wp2_with fail
          refine (HP2.out _ HS5.out).mono ?_
          rintro e w6 ⟨A6, n6, d6, rfl, hb⟩
          have HS6 := Lib.hid (HS5.out.below hb)
          clear hb HP2 HS5
          go_wp2_with fail
          refine (HCA.out _ _ _ _ _ HS6.out.tw.ra HC1.out).mono ?_
          rintro e w7 ⟨A7, d7, B7, n7, e7, rfl, ho, hb⟩
          have HS7 := Lib.hid (HS6.out.below hb)
          have HO7 := Lib.hid ho
          clear ho hb HS6
          go_wp2_with fail
          refine (HCA.out _ _ _ _ _ HS7.out.tw.rb HCm.out).mono ?_
          rintro e w8 ⟨A8, d8, B8, n8, e8, rfl, ho, hb⟩
          have HS8 := Lib.hid (HS7.out.below hb)
          have HO8 := Lib.hid (And.intro (below_own HO7.out hb (Nat.le_refl _)) ho)
          clear ho hb HS7 HO7
          have HSm := Lib.hid (same_reqs_is (A := A7) (A' := A8) (c := d7) (c' := d8) (la := nb) (lb := nb) (zs := batOf cm) (ys := batOf cm) (r := true) HNb.out HNb.out (by have := HLow.out; omega) (sameL_self' _) w8 (has_rows HO8.out.1) (has_rows HO8.out.2))
          go_wp2_with fail
          refine HSm.out.mono ?_
          rintro e w9 ⟨rfl, m1, rfl⟩
          have HF := Lib.hid (HS8.out.tw.ra.drewN m1).low
          go_wp2_with fail
          refine (wakes14_any _).mono ?_
          rintro e w12 ⟨rfl, hb12⟩
          go_wp2_with fail
          go_ret
          exact ⟨rfl, HF.out.trans (hb12.mono HF.out.size)⟩
end Go.Proofs.Ythlmalangjgioaa
