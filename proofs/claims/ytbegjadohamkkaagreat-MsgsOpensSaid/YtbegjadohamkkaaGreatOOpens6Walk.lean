/- The walk of MsgsOpens: it returns true for any message, any numbers and any byte. -/
import Derived.Test.YtbegjadohamkkaaGreatOS6
import Derived.Test.YtbegjadohamkkaaGreatOS9
import Derived.Test.YtbegjadohamkkaaGreatOS8
import Derived.Test.YtbegjadohamkkaaGreatOMsgKeep
import Derived.Test.YtbegjadohamkkaaGreatORefFormS
import Derived.Test.YtbegjadohamkkaaGreatOS0
import Derived.IntWalk
namespace Go.Proofs.YtbegjadohamkkaaGreat
open Go.RowKit Go.Sort

/-- What stands while the law runs: the message's block, the two notaries and theirs. -/
structure OpSt (w0 : World) (B : Nat) (x : Ms) (g0 gt nb bm rb : Nat) (L : List Deed) (R : Nat → Prop) (wr : World) : Prop where
  low : Below w0.heap.size w0 wr
  msg : Blk wr g0 38 #[.int .i64 x.m.kd, .int .i64 x.m.fr, .int .i64 x.m.vw, .int .i64 x.m.ins, .int .i64 x.m.sq, .int .i64 x.m.rs, .slice x.A1 x.m.bt.length x.c1, .slice x.A2 x.m.vs.length x.c2, .slice x.A3 x.m.cs.length x.c3, .slice x.A4 x.m.ps.length x.c4]
  two : Blk wr gt 30 #[.pointer (some ⟨nb, 0, none⟩), .pointer (some ⟨rb, 0, none⟩)]
  tw : Tw B nb bm rb L R wr
  base : w0.heap.size ≤ B
  g0R : ¬ R g0 ∧ g0 ≠ bm
  gtR : ¬ R gt ∧ gt ≠ bm
section
variable {w0 wr w2 : World} {B : Nat} {x : Ms} {g0 gt nb bm rb : Nat} {L L' : List Deed} {R R' : Nat → Prop}
theorem OpSt.turn {Z : Nat → Prop} (h : OpSt w0 B x g0 gt nb bm rb L R wr) (ht : Turn Z wr w2) (hz : ∀ k, k < wr.heap.size → Z k → ¬ R k ∧ k ≠ nb ∧ k ≠ bm ∧ k ≠ g0 ∧ k ≠ gt ∧ w0.heap.size ≤ k) : OpSt w0 B x g0 gt nb bm rb L R w2 :=
  ⟨h.low.trans (ht.below h.low.size (fun k hk hzk => by have h1 := (hz k (Nat.lt_of_lt_of_le hk h.low.size) hzk).2.2.2.2.2; omega)), ht.blk h.msg (fun e => (hz _ h.msg.lt e).2.2.2.1 rfl), ht.blk h.two (fun e => (hz _ h.two.lt e).2.2.2.2.1 rfl),
    h.tw.turn ht (fun k hk hzk => ⟨(hz k hk hzk).1, (hz k hk hzk).2.1, (hz k hk hzk).2.2.1⟩), h.base, h.g0R, h.gtR⟩
theorem OpSt.below (h : OpSt w0 B x g0 gt nb bm rb L R wr) (hb : Below wr.heap.size wr w2) : OpSt w0 B x g0 gt nb bm rb L R w2 := h.turn (Turn.of_below (Z := fun _ => False) hb) (fun _ _ h => h.elim)
theorem OpSt.seal (h : OpSt w0 B x g0 gt nb bm rb L R wr) (ht : Turn (fun k => R k ∨ k = bm) wr w2) (hT : Tw B nb bm rb L' R' w2) (hR : ∀ k, R' k → R k ∨ wr.heap.size ≤ k) : OpSt w0 B x g0 gt nb bm rb L' R' w2 := by
  have h1 := h.msg.lt
  have h2 := h.two.lt
  refine ⟨h.low.trans (ht.below h.low.size (fun k hk e => ?_)), ht.blk h.msg (fun e => e.elim h.g0R.1 h.g0R.2), ht.blk h.two (fun e => e.elim h.gtR.1 h.gtR.2), hT, h.base, ⟨fun e => (hR _ e).elim h.g0R.1 (fun e => by omega), h.g0R.2⟩, ⟨fun e => (hR _ e).elim h.gtR.1 (fun e => by omega), h.gtR.2⟩⟩
  have h3 := h.base
  rcases e with e | rfl
  · have := (h.tw.zone k e).1; omega
  · have := h.tw.bmw; omega
theorem OpSt.apart (h : OpSt w0 B x g0 gt nb bm rb L R wr) {k : Nat} (hk : wr.heap.size ≤ k) : ¬ R k ∧ k ≠ nb ∧ k ≠ bm ∧ k ≠ g0 ∧ k ≠ gt ∧ w0.heap.size ≤ k := by
  have h1 := h.msg.lt
  have h2 := h.two.lt
  have h3 := h.tw.nt.lt
  have h4 := h.low.size
  exact ⟨fun e => by have := (h.tw.zone k e).2; omega, by omega, by omega, by omega, by omega, by omega⟩
theorem OpSt.inn (h : OpSt w0 B x g0 gt nb bm rb L R wr) (hx : x.In w0 w0.heap.size) : x.In wr wr.heap.size := (hx.reads (Reads.below h.low (Nat.le_refl _))).reads (Reads.more h.low.size)
end
theorem xor_u8 {v a : Int} (hv : 0 ≤ v ∧ v ≤ 255) (ha : 0 ≤ a ∧ a ≤ 255) : 0 ≤ bits .xor .u8 v a ∧ bits .xor .u8 v a ≤ 255 ∧ (a ≠ 0 → bits .xor .u8 v a ≠ v) := by
  obtain ⟨n, rfl⟩ := Int.eq_ofNat_of_zero_le hv.1
  obtain ⟨m, rfl⟩ := Int.eq_ofNat_of_zero_le ha.1
  have hn : n < 256 := by omega
  have hm : m < 256 := by omega
  have h1 : bits .xor .u8 (n : Int) (m : Int) = ((n ^^^ m : Nat) : Int) := by
    unfold bits
    show IntKind.u8.wrap (((BitVec.ofInt 8 (n : Int)) ^^^ (BitVec.ofInt 8 (m : Int))).toNat : Int) = _
    rw [BitVec.toNat_xor, BitVec.toNat_ofInt, BitVec.toNat_ofInt]
    have e1 : ((n : Int) % ((2 ^ 8 : Nat) : Int)).toNat = n := by omega
    have e2 : ((m : Int) % ((2 ^ 8 : Nat) : Int)).toNat = m := by omega
    rw [e1, e2]
    have h := Nat.xor_lt_two_pow (n := 8) hn hm
    simp [IntKind.wrap, IntKind.signed, IntKind.bits]
    omega
  have h := Nat.xor_lt_two_pow (n := 8) hn hm
  rw [h1]
  refine ⟨by omega, by omega, fun h0 e => h0 ?_⟩
  have e : n ^^^ m = n := by exact_mod_cast e
  have e2 : n ^^^ (n ^^^ m) = n ^^^ n := by rw [e]
  rw [← Nat.xor_assoc, Nat.xor_self, Nat.zero_xor] at e2
  omega
def msZ : Ms := ⟨⟨0, 0, 0, 0, 0, 0, [], [], [], []⟩, none, 0, none, 0, none, 0, none, 0⟩
theorem msZ_in (w : World) (B : Nat) : msZ.In w B := ⟨Has.nil _ _ _, Has.nil _ _ _, ⟨[], rfl, Has.nil _ _ _, by simp⟩, ⟨[], rfl, Has.nil _ _ _, by simp⟩⟩
theorem msZ_small : smallMs msZ.m := light_ms (by rfl)
theorem bytes_set6 (xs : List Int) (j : Nat) (z : Int) : u8s (xs.set j z) = (u8s xs).set j (.int .u8 z) := by simp [u8s, List.map_set]
theorem own_some {w : World} {base n c s : Nat} {e : TypeId} {A : Option Addr} {xs : List Value} (h : w.ownsRow base e s (.slice A n c) n xs) (hn : 1 ≤ n) : ∃ g, A = some ⟨g, 0, none⟩ := by
  rcases h.2 with ⟨h1, _⟩ | ⟨g, cap, cur, h1, _⟩
  · injection h1 with a b; omega
  · injection h1 with a; exact ⟨g, a⟩
set_option maxHeartbeats 16000000 in
set_option maxRecDepth 100000 in
theorem msgsOpens_walk (x : Ms) (a1 a2 a3 a4 : Int) (w : World) (hx : x.Came w) (_ : (Lit.int .i64 a1).wf = true) (_ : (Lit.int .i64 a2).wf = true) (w3 : (Lit.int .i64 a3).wf = true) (w4 : (Lit.int .u8 a4).wf = true) :
    Calls Tryz.prog 10 #[.agg #[.int .i64 x.m.kd, .int .i64 x.m.fr, .int .i64 x.m.vw, .int .i64 x.m.ins, .int .i64 x.m.sq, .int .i64 x.m.rs, .slice x.A1 x.m.bt.length x.c1, .slice x.A2 x.m.vs.length x.c2, .slice x.A3 x.m.cs.length x.c3, .slice x.A4 x.m.ps.length x.c4], .int .i64 a1, .int .i64 a2, .int .i64 a3, .int .u8 a4] w fun e w' => e = .returned (.bool true) ∧ Below w.heap.size w w' := by
  obtain ⟨b5, b6⟩ := wf_i64 w3
  have HX := Lib.hid hx.in_
  have HFR := Lib.hid hx.fr
  have hb1 : Below w.heap.size w (w.alloc (.cells #[.int .i64 x.m.kd, .int .i64 x.m.fr, .int .i64 x.m.vw, .int .i64 x.m.ins, .int .i64 x.m.sq, .int .i64 x.m.rs, .slice x.A1 x.m.bt.length x.c1, .slice x.A2 x.m.vs.length x.c2, .slice x.A3 x.m.cs.length x.c3, .slice x.A4 x.m.ps.length x.c4] 38)) := (Below.refl _ w).alloc (Nat.le_refl _) _
  have HB1 := Lib.hid hb1
  have HM1 := Lib.hid (Blk.new w 38 #[.int .i64 x.m.kd, .int .i64 x.m.fr, .int .i64 x.m.vw, .int .i64 x.m.ins, .int .i64 x.m.sq, .int .i64 x.m.rs, .slice x.A1 x.m.bt.length x.c1, .slice x.A2 x.m.vs.length x.c2, .slice x.A3 x.m.cs.length x.c3, .slice x.A4 x.m.ps.length x.c4])
  have HI1 := Lib.hid ((hx.in_.reads (Reads.below hb1 (Nat.le_refl _))).reads (Reads.more hb1.size))
  have HU := Lib.hid w4
  clear hb1 hx w3 w4
  go_enter Tryz.func10, Tryz.ntmps10
  go_wp2_with fail
  obtain ⟨w1, hw1⟩ : ∃ w1, w.alloc (.cells #[.int .i64 x.m.kd, .int .i64 x.m.fr, .int .i64 x.m.vw, .int .i64 x.m.ins, .int .i64 x.m.sq, .int .i64 x.m.rs, .slice x.A1 x.m.bt.length x.c1, .slice x.A2 x.m.vs.length x.c2, .slice x.A3 x.m.cs.length x.c3, .slice x.A4 x.m.ps.length x.c4] 38) = w1 := ⟨_, rfl⟩
  obtain ⟨g0, hg0⟩ : ∃ g, w.heap.size = g := ⟨_, rfl⟩
  have HG0 := Lib.hid hg0
  rw [hw1] at HB1 HM1 HI1 ⊢
  rw [hg0] at HM1 ⊢
  clear hw1 hg0
  refine (heavy_msg x w1 HI1.out).mono ?_
  rintro e w2 ⟨rfl, hb2⟩
  have HB2 := Lib.hid (HB1.out.trans (hb2.mono HB1.out.size))
  have HM2 := Lib.hid (HM1.out.below hb2 HM1.out.lt)
  clear hb2 HB1 HM1 HI1
  cases hv : heavyM x.m
  case true =>
    clear hv
    go_wp2_with fail
    refine (wakes6_any _).mono ?_
    rintro e wz ⟨rfl, hbz⟩
    have HBz := Lib.hid (HB2.out.trans (hbz.mono HB2.out.size))
    clear hbz
    go_wp2_with fail
    go_ret
    exact ⟨by rfl, HBz.out⟩
  have HSm := Lib.hid (light_ms hv)
  have hlt := light_toks hv
  have HSh := Lib.hid (light_short hv)
  have hsz : 6 * x.m.toks.length ≤ 70368744177664 := by omega
  clear hv hlt
  go_wp2_with fail
  refine (begin_any _).mono ?_
  rintro e w3 ⟨nb, bm, rb, R, rfl, hT, hb3⟩
  have HB3 := Lib.hid (HB2.out.trans (hb3.mono HB2.out.size))
  have HM3 := Lib.hid (HM2.out.below hb3 HM2.out.lt)
  have HT3 := Lib.hid hT
  have HL2 := Lib.hid HM2.out.lt
  have HZ2 := Lib.hid HB2.out.size
  clear hT hb3 HB2 HM2
  go_upto_region 6 with fail
  have HS := Lib.hid (show OpSt w w2.heap.size x g0 w3.heap.size nb bm rb [] R (w3.alloc (.cells #[.pointer (some ⟨nb, 0, none⟩), .pointer (some ⟨rb, 0, none⟩)] 30)) from
    ⟨HB3.out.alloc HB3.out.size _, HM3.out.alloc _, Blk.new _ _ _, HT3.out.below ((Below.refl _ _).alloc (Nat.le_refl _) _), HZ2.out, ⟨fun e => by have := (HT3.out.zone _ e).1; have := HL2.out; omega, fun e => by have := HT3.out.bmw; have := HL2.out; omega⟩,
      ⟨fun e => by have := (HT3.out.zone _ e).2; omega, fun e => by have := HT3.out.nt.lt.2; omega⟩⟩)
  obtain ⟨w4, hw4⟩ : ∃ w1, w3.alloc (.cells #[.pointer (some ⟨nb, 0, none⟩), .pointer (some ⟨rb, 0, none⟩)] 30) = w1 := ⟨_, rfl⟩
  obtain ⟨gt, hgt⟩ : ∃ g, w3.heap.size = g := ⟨_, rfl⟩
  rw [hw4, hgt] at HS
  rw [hw4, hgt]
  obtain ⟨B, hB⟩ : ∃ B, w2.heap.size = B := ⟨_, rfl⟩
  rw [hB] at HS
  clear hw4 hgt hB HB3 HM3 HT3 HL2 HZ2
  have d0 := HS.out.msg.cell 0
  have d1 := HS.out.msg.cell 1
  have d2 := HS.out.msg.cell 2
  have d3 := HS.out.msg.cell 3
  have d4 := HS.out.msg.cell 4
  have d5 := HS.out.msg.cell 5
  have d6 := HS.out.msg.cell 6
  have d7 := HS.out.msg.cell 7
  have d8 := HS.out.msg.cell 8
  have d9 := HS.out.msg.cell 9
  simp only [List.getElem?_toArray, List.getElem?_cons_zero, List.getElem?_cons_succ] at d0 d1 d2 d3 d4 d5 d6 d7 d8 d9
  go_wp2_with fail
  refine (rbody_msg x w4 (HS.out.inn HX.out) hsz).mono ?_
  rintro e w5 ⟨hb5, ⟨bs, A, c, hbs, rfl, ho⟩ | ⟨hbs, rfl⟩⟩
  clear d0 d1 d2 d3 d4 d5 d6 d7 d8 d9
  case inr =>
    have HS5 := Lib.hid (HS.out.below hb5)
    have HBS := Lib.hid hbs
    clear hb5 hbs HS
    have d0 := HS5.out.msg.cell 0
    have d1 := HS5.out.msg.cell 1
    have d2 := HS5.out.msg.cell 2
    have d3 := HS5.out.msg.cell 3
    have d4 := HS5.out.msg.cell 4
    have d5 := HS5.out.msg.cell 5
    have d6 := HS5.out.msg.cell 6
    have d7 := HS5.out.msg.cell 7
    have d8 := HS5.out.msg.cell 8
    have d9 := HS5.out.msg.cell 9
    simp only [List.getElem?_toArray, List.getElem?_cons_zero, List.getElem?_cons_succ] at d0 d1 d2 d3 d4 d5 d6 d7 d8 d9
    have t0 := HS5.out.two.cell 0
    have t1 := HS5.out.two.cell 1
    simp only [List.getElem?_toArray, List.getElem?_cons_zero, List.getElem?_cons_succ] at t0 t1
    go_wp2_with fail
    refine (mseal_any x (HS5.out.inn HX.out) hsz HFR.out HS5.out.tw.nt (Nat.zero_le _)).mono ?_
    rintro e w6 (⟨_, rfl, hb6⟩ | ⟨bs, h1, _⟩)
    case inr => rw [HBS.out] at h1; cases h1
    have HB6 := Lib.hid (HS5.out.low.trans (hb6.mono HS5.out.low.size))
    clear d0 d1 d2 d3 d4 d5 d6 d7 d8 d9
    clear t0 t1 hb6
    go_wp2_with fail
    refine (wakes6_any _).mono ?_
    rintro e wz ⟨rfl, hbz⟩
    have HBz := Lib.hid (HB6.out.trans (hbz.mono HB6.out.size))
    clear hbz
    go_wp2_with fail
    go_ret
    exact ⟨by rfl, HBz.out⟩

  have HS5 := Lib.hid (HS.out.below hb5)
  have HBS := Lib.hid hbs
  have HO := Lib.hid ho
  have HOw := Lib.hid HS.out.tw.zone
  have HLb := Lib.hid HS.out.tw.nt.lt
  have hcs := own_caps ho
  have hbl := bodyM_len hbs
  obtain ⟨n, hn⟩ : ∃ n, bs.length = n := ⟨_, rfl⟩
  rw [hn] at HO hcs hbl ⊢
  have HNn := Lib.hid hn
  have HG4 := Lib.hid HS.out.low.size
  clear hb5 hbs ho hn HS
  have d0 := HS5.out.msg.cell 0
  have d1 := HS5.out.msg.cell 1
  have d2 := HS5.out.msg.cell 2
  have d3 := HS5.out.msg.cell 3
  have d4 := HS5.out.msg.cell 4
  have d5 := HS5.out.msg.cell 5
  have d6 := HS5.out.msg.cell 6
  have d7 := HS5.out.msg.cell 7
  have d8 := HS5.out.msg.cell 8
  have d9 := HS5.out.msg.cell 9
  simp only [List.getElem?_toArray, List.getElem?_cons_zero, List.getElem?_cons_succ] at d0 d1 d2 d3 d4 d5 d6 d7 d8 d9
  have t0 := HS5.out.two.cell 0
  have t1 := HS5.out.two.cell 1
  simp only [List.getElem?_toArray, List.getElem?_cons_zero, List.getElem?_cons_succ] at t0 t1
  go_wp2_with fail
  refine (tseal_any HS5.out.tw (Nat.zero_le _) HFR.out (Has.own HO.out) HNn.out (by omega) (fun ad e hne hr => by
    have h1 := (HO.out.lt ad.block (by rw [e]; rfl)).1
    have h2 := (HOw.out _ hr).2
    omega)).mono ?_
  rintro e w6 ⟨rfl, R6, hT6, ht6, hR6⟩
  clear d0 d1 d2 d3 d4 d5 d6 d7 d8 d9
  have HS6 := Lib.hid (show OpSt w B x g0 gt nb bm rb [deedM x.m bs] R6 w6 from HS5.out.seal ht6 (by rw [← sealedE]; exact hT6) hR6)
  have HO6 := Lib.hid ((has_apart (Has.own HO.out) ht6 (fun ad e _ hr => by
    have h1 := (HO.out.lt ad.block (by rw [e]; rfl)).1
    rcases hr with hr | hr
    · have h2 := (HOw.out _ hr).2; omega
    · have h2 := HLb.out.2; omega)).more ht6.size)
  have HAp := Lib.hid (fun k (hk : w6.heap.size ≤ k) => HS6.out.apart hk)
  have HNil := Lib.hid (gr_none HO.out)
  rw [show sealS [] (x.m.fr, strOfNums bs) = 1 from rfl]
  clear hT6 ht6 hR6 HS5 HO HOw HLb t0 t1
  have HEn := Lib.hid (env_one bs)
  go_wp2_with fail
  refine (envelope_any 1 HNn.out (by omega) w6 HO6.out HNil.out).mono ?_
  rintro e w7 ⟨hb7, hc7⟩
  rw [HEn.out, HNn.out] at hc7
  have HS7 := Lib.hid (HS6.out.below hb7)
  have HO7 := Lib.hid ((HO6.out.below hb7 (Nat.le_refl _)).more hb7.size)
  clear hb7 HS6 HO6
  by_cases hl : 1 + n ≤ 65536
  case neg =>
    rw [if_neg hl] at hc7
    rcases hc7 with ⟨es, _, _, hes, _⟩ | ⟨_, rfl⟩
    case inl => cases hes
    go_wp2_with fail
    refine (renvelope_any 1 HNn.out (by omega) w7 HO7.out HNil.out).mono ?_
    rintro e w8 ⟨hb8, hc8⟩
    rw [HEn.out, HNn.out, if_neg hl] at hc8
    rcases hc8 with ⟨es, _, _, hes, _⟩ | ⟨_, rfl⟩
    case inl => cases hes
    have HS8 := Lib.hid (HS7.out.below hb8)
    have HB8 := Lib.hid HS8.out.low
    clear hb8
    go_wp2_with fail
    refine (same_is (zs := []) (ys := []) (B := w8.heap.size) (r := true) rfl rfl (by decide) rfl _ (Has.nil _ _ _) (Has.nil _ _ _)).mono ?_
    rintro e w9 ⟨rfl, nq, rfl⟩
    have HB9 := Lib.hid (below_drewN HB8.out nq)
    go_wp2_with fail
    refine (wakes6_any _).mono ?_
    rintro e wz ⟨rfl, hbz⟩
    have HBz := Lib.hid (HB9.out.trans (hbz.mono HB9.out.size))
    clear hbz
    go_wp2_with fail
    go_ret
    exact ⟨by rfl, HBz.out⟩

  rw [if_pos hl] at hc7
  rcases hc7 with ⟨es, A7, c7, hes, rfl, ho7⟩ | ⟨hes, _⟩
  case inr => cases hes
  have hes : 1 :: bs = es := by injection hes
  have HEs := Lib.hid hes
  have HEz := Lib.hid (show ∀ z ∈ es, 0 ≤ z ∧ z ≤ 255 by
    rw [← hes]
    intro z hz
    rcases List.mem_cons.1 hz with rfl | hz
    · omega
    · exact body_u8 HBS.out z hz)
  have hel0 : es.length = n + 1 := by rw [← hes, List.length_cons, HNn.out]
  have hle : 1 ≤ n + 1 := by omega
  obtain ⟨q, hq⟩ : ∃ q, n + 1 = q := ⟨_, rfl⟩
  rw [hq] at hel0 hle
  have hq2 : q ≤ 65536 := by omega
  rw [hel0] at ho7 ⊢
  have HEl := Lib.hid hel0
  have HE7 := Lib.hid ho7
  have hE7 := own_caps ho7
  clear ho7 hes hel0
  go_wp2_with fail
  refine (renvelope_any 1 HNn.out (by omega) w7 HO7.out HNil.out).mono ?_
  rintro e w8 ⟨hb8, hc8⟩
  rw [HEn.out, HNn.out, if_pos hl] at hc8
  rcases hc8 with ⟨es8, A8, c8, hes8, rfl, ho8⟩ | ⟨hes8, _⟩
  case inr => cases hes8
  have hes8 : 1 :: bs = es8 := by injection hes8
  rw [HEs.out] at hes8
  subst hes8
  rw [HEl.out] at ho8 ⊢
  have HS8 := Lib.hid (HS7.out.below hb8)
  have HE8 := Lib.hid (below_own HE7.out hb8 (Nat.le_refl _))
  have HV8 := Lib.hid (Has.own ho8)
  clear hb8 ho8 HS7 HO7 HE7 HNil
  go_wp2_with fail
  refine (same_is (r := true) HEl.out HEl.out (by omega) (decide_eq_true rfl) _ (Has.own HE8.out) HV8.out).mono ?_
  rintro e w9 ⟨rfl, nq, rfl⟩
  have HS9 := Lib.hid (HS8.out.below (below_drewN (Below.refl _ _) nq))
  have HE9 := Lib.hid (below_own HE8.out (below_drewN (Below.refl _ _) nq) (Nat.le_refl _))
  clear HS8 HE8 HV8
  obtain ⟨w10, hw10⟩ : ∃ w', w8.drewN nq = w' := ⟨_, rfl⟩
  rw [hw10] at HS9 HE9
  rw [hw10]
  clear hw10
  have t0 := HS9.out.two.cell 0
  have t1 := HS9.out.two.cell 1
  simp only [List.getElem?_toArray, List.getElem?_cons_zero, List.getElem?_cons_succ] at t0 t1
  go_wp2_with fail
  have hOp := open_one (F := fun m => formS m a1 a2) HBS.out (by rw [HNn.out]; exact hl)
  rw [HEs.out] at hOp
  have HOp := Lib.hid hOp
  clear hOp
  refine (open_with HS9.out.tw.nt HEl.out hE7.1 (by omega) HEz.out (Nat.le_refl _) (Has.own HE9.out) a1 a2 (fun m => formS m a1 a2) (fun y k i w' _ hp _ hy => mform_any y hy (parse_short (fun z hz => HEz.out z (List.mem_of_mem_drop hz)) hp) (wf_i64 (parse_from (fun z hz => HEz.out z (List.mem_of_mem_drop hz)) hp)).2 a1 a2)).mono ?_
  rintro e w11 ⟨hb11, hc11⟩
  rw [HOp.out] at hc11
  have HS11 := Lib.hid (HS9.out.below hb11)
  have HE11 := Lib.hid (below_own HE9.out hb11 (Nat.le_refl _))
  clear hb11 HS9 HE9 t0 t1 HOp
  have HRF := Lib.hid (fun (w' : World) (hy : x.In w' w'.heap.size) => rform_any x hy HSh.out (body_cl HBS.out) a1 a2)
  cases hf : formS x.m a1 a2
  case true =>
    rw [hf] at HRF
    rw [if_pos hf] at hc11
    rcases hc11 with ⟨y, k, ho, rfl, hown⟩ | ⟨ho, _⟩
    case inr => cases ho
    have hym : x.m = y.m := by injection ho with ho; injection ho
    have hk : (1 : Int) = k := by injection ho with ho; injection ho
    subst hk
    have HYm := Lib.hid hym
    have HY11 := Lib.hid hown.in_
    clear ho hown hym hf
    go_upto_region 18 with fail
    have hb12 : Below w11.heap.size w11 (w11.alloc (.cells #[.int .i64 y.m.kd, .int .i64 y.m.fr, .int .i64 y.m.vw, .int .i64 y.m.ins, .int .i64 y.m.sq, .int .i64 y.m.rs, .slice y.A1 y.m.bt.length y.c1, .slice y.A2 y.m.vs.length y.c2, .slice y.A3 y.m.cs.length y.c3, .slice y.A4 y.m.ps.length y.c4] 38)) := (Below.refl _ _).alloc (Nat.le_refl _) _
    have HS12 := Lib.hid (HS11.out.below hb12)
    have HE12 := Lib.hid (below_own HE11.out hb12 (Nat.le_refl _))
    have HM12 := Lib.hid (Blk.new w11 38 #[.int .i64 y.m.kd, .int .i64 y.m.fr, .int .i64 y.m.vw, .int .i64 y.m.ins, .int .i64 y.m.sq, .int .i64 y.m.rs, .slice y.A1 y.m.bt.length y.c1, .slice y.A2 y.m.vs.length y.c2, .slice y.A3 y.m.cs.length y.c3, .slice y.A4 y.m.ps.length y.c4])
    have HY12 := Lib.hid ((HY11.out.reads (Reads.below hb12 (Nat.le_refl _))).reads (Reads.more hb12.size))
    obtain ⟨w12, hw12⟩ : ∃ w', w11.alloc (.cells #[.int .i64 y.m.kd, .int .i64 y.m.fr, .int .i64 y.m.vw, .int .i64 y.m.ins, .int .i64 y.m.sq, .int .i64 y.m.rs, .slice y.A1 y.m.bt.length y.c1, .slice y.A2 y.m.vs.length y.c2, .slice y.A3 y.m.cs.length y.c3, .slice y.A4 y.m.ps.length y.c4] 38) = w' := ⟨_, rfl⟩
    obtain ⟨g12, hg12⟩ : ∃ g, w11.heap.size = g := ⟨_, rfl⟩
    rw [hw12] at HS12 HE12 HM12 HY12
    rw [hg12] at HM12
    rw [hw12, hg12]
    clear hb12 hw12 hg12 HS11 HE11 HY11
    have d0 := HS12.out.msg.cell 0
    have d1 := HS12.out.msg.cell 1
    have d2 := HS12.out.msg.cell 2
    have d3 := HS12.out.msg.cell 3
    have d4 := HS12.out.msg.cell 4
    have d5 := HS12.out.msg.cell 5
    have d6 := HS12.out.msg.cell 6
    have d7 := HS12.out.msg.cell 7
    have d8 := HS12.out.msg.cell 8
    have d9 := HS12.out.msg.cell 9
    simp only [List.getElem?_toArray, List.getElem?_cons_zero, List.getElem?_cons_succ] at d0 d1 d2 d3 d4 d5 d6 d7 d8 d9
    go_wp2_with fail
    refine (HRF.out _ (HS12.out.inn HX.out)).mono ?_
    rintro e w13 ⟨rfl, hb13⟩
    clear d0 d1 d2 d3 d4 d5 d6 d7 d8 d9
    have HS13 := Lib.hid (HS12.out.below hb13)
    have HE13 := Lib.hid (below_own HE12.out hb13 (Nat.le_refl _))
    have HM13 := Lib.hid (HM12.out.below hb13 HM12.out.lt)
    have HY13 := Lib.hid ((HY12.out.reads (Reads.below hb13 (Nat.le_refl _))).reads (Reads.more hb13.size))
    clear hb13 HS12 HE12 HM12 HY12 HRF
    have KM := Lib.hid (keep_msg y x w13.heap.size w13 HY13.out (HS13.out.inn HX.out) (Nat.le_refl _) (by rw [← HYm.out]; exact HSm.out))
    rw [show decide (y.m = x.m) = true from decide_eq_true HYm.out.symm] at KM
    have d0 := HS13.out.msg.cell 0
    have d1 := HS13.out.msg.cell 1
    have d2 := HS13.out.msg.cell 2
    have d3 := HS13.out.msg.cell 3
    have d4 := HS13.out.msg.cell 4
    have d5 := HS13.out.msg.cell 5
    have d6 := HS13.out.msg.cell 6
    have d7 := HS13.out.msg.cell 7
    have d8 := HS13.out.msg.cell 8
    have d9 := HS13.out.msg.cell 9
    simp only [List.getElem?_toArray, List.getElem?_cons_zero, List.getElem?_cons_succ] at d0 d1 d2 d3 d4 d5 d6 d7 d8 d9
    have f0 := HM13.out.cell 0
    have f1 := HM13.out.cell 1
    have f2 := HM13.out.cell 2
    have f3 := HM13.out.cell 3
    have f4 := HM13.out.cell 4
    have f5 := HM13.out.cell 5
    have f6 := HM13.out.cell 6
    have f7 := HM13.out.cell 7
    have f8 := HM13.out.cell 8
    have f9 := HM13.out.cell 9
    simp only [List.getElem?_toArray, List.getElem?_cons_zero, List.getElem?_cons_succ] at f0 f1 f2 f3 f4 f5 f6 f7 f8 f9
    go_wp2_with fail
    refine KM.out.mono ?_
    rintro e w14 ⟨rfl, hb14⟩
    clear d0 d1 d2 d3 d4 d5 d6 d7 d8 d9
    clear f0 f1 f2 f3 f4 f5 f6 f7 f8 f9
    have HS14 := Lib.hid (HS13.out.below hb14)
    have HE14 := Lib.hid (below_own HE13.out hb14 (Nat.le_refl _))
    clear hb14 HS13 HE13 HM13 HY13 KM HYm
    obtain ⟨g7, rfl⟩ := own_some HE14.out hle
    have HWi := Lib.hid (fun w => within_any a3 q (by omega) (by omega) b5 b6 w)
    obtain ⟨i, hi, hi2⟩ : ∃ i : Nat, a3 % (q : Int) = (i : Int) ∧ i < q := ⟨(a3 % (q : Int)).toNat, by have := Int.emod_nonneg a3 (show (q : Int) ≠ 0 by omega); omega, by have := Int.emod_nonneg a3 (show (q : Int) ≠ 0 by omega); have := Int.emod_lt_of_pos a3 (show 0 < (q : Int) by omega); omega⟩
    rw [hi] at HWi
    clear hi
    have HBt := Lib.hid HS14.out.low
    go_wp2_with fail
    refine (HWi.out _).mono ?_
    rintro e w' ⟨rfl, rfl⟩
    clear HWi
    by_cases ht : a4 = 0
    case pos =>
      subst ht
      go_wp2_with fail
      refine (wakes6_any _).mono ?_
      rintro e wz ⟨rfl, hbz⟩
      have HBz := Lib.hid (HBt.out.trans (hbz.mono HBt.out.size))
      clear hbz
      go_wp2_with fail
      go_ret
      exact ⟨by rfl, HBz.out⟩
    have hcell := HE14.out.cellAt i (by omega)
    have hfz := HE14.out.frozenAt i
    have hj2 : i < es.length := by rw [HEl.out]; exact hi2
    rw [u8s_get es i hj2] at hcell
    obtain ⟨v, hv⟩ : ∃ v, es.getD i 0 = v := ⟨_, rfl⟩
    have hje : es[i]? = some v := by rw [← hv, List.getD_eq_getElem?_getD, List.getElem?_eq_getElem hj2]; rfl
    have hjz := HEz.out v (List.mem_of_getElem? hje)
    rw [hv] at hcell
    have HJ := Lib.hid hje
    clear hv hje hj2
    have hi3 : (0 : Int) ≤ (i : Int) := by omega
    have hi4 : (i : Int) < (q : Int) := by omega
    have hbU : 0 ≤ a4 ∧ a4 ≤ 255 := by
      have h := HU.out
      simp only [Lit.wf, Bool.and_eq_true, IntKind.min, IntKind.max, IntKind.signed, IntKind.bits] at h
      simp at h
      omega
    have hX := xor_u8 hjz hbU
    obtain ⟨z, hz⟩ : ∃ z, bits .xor .u8 v a4 = z := ⟨_, rfl⟩
    rw [hz] at hX
    have HE15 := Lib.hid (show (w14.setCell ⟨g7, i, none⟩ (.int .u8 z)).ownsRow w6.heap.size 5 1 (.slice (some ⟨g7, 0, none⟩) q c7) q (u8s (es.set i z)) from by rw [bytes_set6]; exact (HE14.out.stored i (.int .u8 z)).1)
    have hg7 := (HE14.out.lt g7 rfl).1
    have HT15 := Lib.hid ((Turn.refl (fun k => k = g7) w14).set_ ⟨g7, i, none⟩ (.int .u8 z) rfl)
    have HS15 := Lib.hid (HS14.out.turn HT15.out (fun k _ hk => HAp.out k (by omega)))
    have HLn := Lib.hid (show (es.set i z).length = q by rw [List.length_set]; exact HEl.out)
    have HZn := Lib.hid (show ∀ u ∈ es.set i z, 0 ≤ u ∧ u ≤ 255 from fun u hu => by
      rcases List.mem_or_eq_of_mem_set hu with hu | rfl
      · exact HEz.out u hu
      · omega)
    have HNo := Lib.hid (show openS (fun m => formS m a1 a2) (es.set i z) [deedM x.m bs] = none from open_other HBS.out HZn.out (by rw [HEs.out]; exact set_other HJ.out (hX.2.2 ht)))
    have ht3 : (a4 == 0) = false := beq_eq_false_iff_ne.2 ht
    clear hjz hbU hX hg7 HJ HT15
    go_upto_region 27 with fail
    obtain ⟨w15, hw15⟩ : ∃ w', w14.setCell ⟨g7, i, none⟩ (.int .u8 z) = w' := ⟨_, rfl⟩
    rw [hw15] at HE15 HS15 ⊢
    clear hw15 hz hcell hfz
    have t0 := HS15.out.two.cell 0
    have t1 := HS15.out.two.cell 1
    simp only [List.getElem?_toArray, List.getElem?_cons_zero, List.getElem?_cons_succ] at t0 t1
    go_wp2_with fail
    refine (open_with HS15.out.tw.nt HLn.out hE7.1 (by omega) HZn.out (Nat.le_refl _) (Has.own HE15.out) a1 a2 (fun m => formS m a1 a2) (fun y k i w' _ hp _ hy => mform_any y hy (parse_short (fun z hz => HZn.out z (List.mem_of_mem_drop hz)) hp) (wf_i64 (parse_from (fun z hz => HZn.out z (List.mem_of_mem_drop hz)) hp)).2 a1 a2)).mono ?_
    rintro e w16 ⟨hb16, hc16⟩
    rw [HNo.out] at hc16
    rcases hc16 with ⟨y, k, ho, _⟩ | ⟨_, rfl⟩
    case inl => cases ho
    have HB16 := Lib.hid (HS15.out.low.trans (hb16.mono HS15.out.low.size))
    clear hb16 t0 t1
    go_wp2_with fail
    refine (wakes6_any _).mono ?_
    rintro e wz ⟨rfl, hbz⟩
    have HBz := Lib.hid (HB16.out.trans (hbz.mono HB16.out.size))
    clear hbz
    go_wp2_with fail
    go_ret
    exact ⟨by rfl, HBz.out⟩
  rw [hf] at HRF
  rw [if_neg (by rw [hf]; decide)] at hc11
  rcases hc11 with ⟨y, k, ho, _⟩ | ⟨_, rfl⟩
  case inl => cases ho
  clear hf
  go_upto_region 18 with fail
  have hb12 : Below w11.heap.size w11 (w11.alloc (.cells #[.int .i64 0, .int .i64 0, .int .i64 0, .int .i64 0, .int .i64 0, .int .i64 0, .slice none 0 0, .slice none 0 0, .slice none 0 0, .slice none 0 0] 38)) := (Below.refl _ _).alloc (Nat.le_refl _) _
  have HS12 := Lib.hid (HS11.out.below hb12)
  have HE12 := Lib.hid (below_own HE11.out hb12 (Nat.le_refl _))
  have HM12 := Lib.hid (Blk.new w11 38 #[.int .i64 0, .int .i64 0, .int .i64 0, .int .i64 0, .int .i64 0, .int .i64 0, .slice none 0 0, .slice none 0 0, .slice none 0 0, .slice none 0 0])
  obtain ⟨w12, hw12⟩ : ∃ w', w11.alloc (.cells #[.int .i64 0, .int .i64 0, .int .i64 0, .int .i64 0, .int .i64 0, .int .i64 0, .slice none 0 0, .slice none 0 0, .slice none 0 0, .slice none 0 0] 38) = w' := ⟨_, rfl⟩
  obtain ⟨g12, hg12⟩ : ∃ g, w11.heap.size = g := ⟨_, rfl⟩
  rw [hw12] at HS12 HE12 HM12
  rw [hg12] at HM12
  rw [hw12, hg12]
  clear hb12 hw12 hg12 HS11 HE11
  have d0 := HS12.out.msg.cell 0
  have d1 := HS12.out.msg.cell 1
  have d2 := HS12.out.msg.cell 2
  have d3 := HS12.out.msg.cell 3
  have d4 := HS12.out.msg.cell 4
  have d5 := HS12.out.msg.cell 5
  have d6 := HS12.out.msg.cell 6
  have d7 := HS12.out.msg.cell 7
  have d8 := HS12.out.msg.cell 8
  have d9 := HS12.out.msg.cell 9
  simp only [List.getElem?_toArray, List.getElem?_cons_zero, List.getElem?_cons_succ] at d0 d1 d2 d3 d4 d5 d6 d7 d8 d9
  go_wp2_with fail
  refine (HRF.out _ (HS12.out.inn HX.out)).mono ?_
  rintro e w13 ⟨rfl, hb13⟩
  clear d0 d1 d2 d3 d4 d5 d6 d7 d8 d9
  have HS13 := Lib.hid (HS12.out.below hb13)
  have HE13 := Lib.hid (below_own HE12.out hb13 (Nat.le_refl _))
  have HM13 := Lib.hid (HM12.out.below hb13 HM12.out.lt)
  clear hb13 HS12 HE12 HM12 HRF
  have KM := Lib.hid (keep_msg msZ msZ w13.heap.size w13 (msZ_in _ _) (msZ_in _ _) (Nat.le_refl _) msZ_small)
  rw [show decide (msZ.m = msZ.m) = true from decide_eq_true rfl] at KM
  have f0 := HM13.out.cell 0
  have f1 := HM13.out.cell 1
  have f2 := HM13.out.cell 2
  have f3 := HM13.out.cell 3
  have f4 := HM13.out.cell 4
  have f5 := HM13.out.cell 5
  have f6 := HM13.out.cell 6
  have f7 := HM13.out.cell 7
  have f8 := HM13.out.cell 8
  have f9 := HM13.out.cell 9
  simp only [List.getElem?_toArray, List.getElem?_cons_zero, List.getElem?_cons_succ] at f0 f1 f2 f3 f4 f5 f6 f7 f8 f9
  go_wp2_with fail
  refine KM.out.mono ?_
  rintro e w14 ⟨rfl, hb14⟩
  clear f0 f1 f2 f3 f4 f5 f6 f7 f8 f9
  have HS14 := Lib.hid (HS13.out.below hb14)
  have HE14 := Lib.hid (below_own HE13.out hb14 (Nat.le_refl _))
  clear hb14 HS13 HE13 HM13 KM
  obtain ⟨g7, rfl⟩ := own_some HE14.out hle
  have HWi := Lib.hid (fun w => within_any a3 q (by omega) (by omega) b5 b6 w)
  obtain ⟨i, hi, hi2⟩ : ∃ i : Nat, a3 % (q : Int) = (i : Int) ∧ i < q := ⟨(a3 % (q : Int)).toNat, by have := Int.emod_nonneg a3 (show (q : Int) ≠ 0 by omega); omega, by have := Int.emod_nonneg a3 (show (q : Int) ≠ 0 by omega); have := Int.emod_lt_of_pos a3 (show 0 < (q : Int) by omega); omega⟩
  rw [hi] at HWi
  clear hi
  have HBt := Lib.hid HS14.out.low
  go_wp2_with fail
  refine (HWi.out _).mono ?_
  rintro e w' ⟨rfl, rfl⟩
  clear HWi
  by_cases ht : a4 = 0
  case pos =>
    subst ht
    go_wp2_with fail
    refine (wakes6_any _).mono ?_
    rintro e wz ⟨rfl, hbz⟩
    have HBz := Lib.hid (HBt.out.trans (hbz.mono HBt.out.size))
    clear hbz
    go_wp2_with fail
    go_ret
    exact ⟨by rfl, HBz.out⟩
  have hcell := HE14.out.cellAt i (by omega)
  have hfz := HE14.out.frozenAt i
  have hj2 : i < es.length := by rw [HEl.out]; exact hi2
  rw [u8s_get es i hj2] at hcell
  obtain ⟨v, hv⟩ : ∃ v, es.getD i 0 = v := ⟨_, rfl⟩
  have hje : es[i]? = some v := by rw [← hv, List.getD_eq_getElem?_getD, List.getElem?_eq_getElem hj2]; rfl
  have hjz := HEz.out v (List.mem_of_getElem? hje)
  rw [hv] at hcell
  have HJ := Lib.hid hje
  clear hv hje hj2
  have hi3 : (0 : Int) ≤ (i : Int) := by omega
  have hi4 : (i : Int) < (q : Int) := by omega
  have hbU : 0 ≤ a4 ∧ a4 ≤ 255 := by
    have h := HU.out
    simp only [Lit.wf, Bool.and_eq_true, IntKind.min, IntKind.max, IntKind.signed, IntKind.bits] at h
    simp at h
    omega
  have hX := xor_u8 hjz hbU
  obtain ⟨z, hz⟩ : ∃ z, bits .xor .u8 v a4 = z := ⟨_, rfl⟩
  rw [hz] at hX
  have HE15 := Lib.hid (show (w14.setCell ⟨g7, i, none⟩ (.int .u8 z)).ownsRow w6.heap.size 5 1 (.slice (some ⟨g7, 0, none⟩) q c7) q (u8s (es.set i z)) from by rw [bytes_set6]; exact (HE14.out.stored i (.int .u8 z)).1)
  have hg7 := (HE14.out.lt g7 rfl).1
  have HT15 := Lib.hid ((Turn.refl (fun k => k = g7) w14).set_ ⟨g7, i, none⟩ (.int .u8 z) rfl)
  have HS15 := Lib.hid (HS14.out.turn HT15.out (fun k _ hk => HAp.out k (by omega)))
  have HLn := Lib.hid (show (es.set i z).length = q by rw [List.length_set]; exact HEl.out)
  have HZn := Lib.hid (show ∀ u ∈ es.set i z, 0 ≤ u ∧ u ≤ 255 from fun u hu => by
    rcases List.mem_or_eq_of_mem_set hu with hu | rfl
    · exact HEz.out u hu
    · omega)
  have HNo := Lib.hid (show openS (fun m => formS m a1 a2) (es.set i z) [deedM x.m bs] = none from open_other HBS.out HZn.out (by rw [HEs.out]; exact set_other HJ.out (hX.2.2 ht)))
  have ht3 : (a4 == 0) = false := beq_eq_false_iff_ne.2 ht
  clear hjz hbU hX hg7 HJ HT15
  go_upto_region 27 with fail
  obtain ⟨w15, hw15⟩ : ∃ w', w14.setCell ⟨g7, i, none⟩ (.int .u8 z) = w' := ⟨_, rfl⟩
  rw [hw15] at HE15 HS15 ⊢
  clear hw15 hz hcell hfz
  have t0 := HS15.out.two.cell 0
  have t1 := HS15.out.two.cell 1
  simp only [List.getElem?_toArray, List.getElem?_cons_zero, List.getElem?_cons_succ] at t0 t1
  go_wp2_with fail
  refine (open_with HS15.out.tw.nt HLn.out hE7.1 (by omega) HZn.out (Nat.le_refl _) (Has.own HE15.out) a1 a2 (fun m => formS m a1 a2) (fun y k i w' _ hp _ hy => mform_any y hy (parse_short (fun z hz => HZn.out z (List.mem_of_mem_drop hz)) hp) (wf_i64 (parse_from (fun z hz => HZn.out z (List.mem_of_mem_drop hz)) hp)).2 a1 a2)).mono ?_
  rintro e w16 ⟨hb16, hc16⟩
  rw [HNo.out] at hc16
  rcases hc16 with ⟨y, k, ho, _⟩ | ⟨_, rfl⟩
  case inl => cases ho
  have HB16 := Lib.hid (HS15.out.low.trans (hb16.mono HS15.out.low.size))
  clear hb16 t0 t1
  go_wp2_with fail
  refine (wakes6_any _).mono ?_
  rintro e wz ⟨rfl, hbz⟩
  have HBz := Lib.hid (HB16.out.trans (hbz.mono HB16.out.size))
  clear hbz
  go_wp2_with fail
  go_ret
  exact ⟨by rfl, HBz.out⟩
end Go.Proofs.YtbegjadohamkkaaGreat
