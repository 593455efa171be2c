/- The walk of LinkClones. -/
import Derived.Test.YtpopchigboacaaaLinkStart
import Derived.Deep.RegionHeld3
namespace Go.Proofs.Ytpopchigboacaaa
open Go.RowKit Go.Sort
set_option linter.unusedSimpArgs false
set_option linter.unusedVariables false

/-- The one stays where the other goes its way. -/
theorem Jo.stay {R R2 : Nat → Prop} {B : Nat} {wx wy : World} {qb pb rb sb : Nat} {room lost lost2 : Int} {L L2 : List Bs} (h : Jo R B wx wx rb sb room lost (L.map Bs.z) lost L) (h2 : Jo R2 B wx wy qb pb room lost2 (L2.map Bs.z) lost2 L2) (hd : ∀ k, k < wx.heap.size → R k → ¬ R2 k) :
    Jo (fun k => R k ∧ ¬ (wx.heap.size ≤ k ∧ k < wy.heap.size)) B wy wy rb sb room lost (L.map Bs.z) lost L :=
  ⟨(h.q.mono (R' := fun k => R k ∧ ¬ (wx.heap.size ≤ k ∧ k < wy.heap.size)) (fun k hk hr => ⟨hr, fun h => by omega⟩)).kept h2.tn (fun k hk hq hz => hd k hk hq.1.1 hz),
    (h.p.mono (R' := fun k => R k ∧ ¬ (wx.heap.size ≤ k ∧ k < wy.heap.size)) (fun k hk hr => ⟨hr, fun h => by omega⟩)).kept h2.tn (fun k hk hp hz => hd k hk hp.1.1 hz),
    fun x hx => (h.in_ x hx).kept h2.tn h2.low, Turn.refl _ _, fun k hk => ⟨h.new k (Nat.le_trans h2.tn.size hk), fun h => by omega⟩, fun k hk hr => h.low k hk hr.1⟩
theorem Jo.here {R : Nat → Prop} {B : Nat} {w wx : World} {qb pb : Nat} {room lq lp : Int} {L : List (List Int)} {l : List Bs} (h : Jo R B w wx qb pb room lq L lp l) : Jo R B wx wx qb pb room lq L lp l :=
  ⟨h.q, h.p, h.in_, Turn.refl _ _, fun k hk => h.new k (Nat.le_trans h.sz hk), h.low⟩
set_option maxHeartbeats 8000000 in
set_option maxRecDepth 100000 in
theorem linkClones_walk (a0 : Int) (a1 : Option Addr) (c1 : Nat) (z1 : List Ac) (a2 : Option Addr) (c2 : Nat) (z2 : List Ac) (a3 : Option Addr) (c3 : Nat) (z3 : List Ac) (w : World) (w0 : (Lit.int .i64 a0).wf = true) (w1 : IsActs w a1 z1 c1) (w2 : IsActs w a2 z2 c2) (w3 : IsActs w a3 z3 c3) :
    Calls Try.prog 6 #[.int .i64 a0, .slice a1 z1.length c1, .slice a2 z2.length c2, .slice a3 z3.length c3] w fun e w' => e = .returned (.bool true) ∧ Below w.heap.size w w' := by
  have HA1 := Lib.hid w1
  have HA2 := Lib.hid w2
  have HA3 := Lib.hid w3
  have HW0 := Lib.hid (fun w => within_any a0 20 (by omega) (by omega) (wf_i64 w0).1 (wf_i64 w0).2 w)
  clear w0 w1 w2 w3
  obtain ⟨r, hr⟩ : ∃ r, a0 % 20 = r := ⟨_, rfl⟩
  have hr0 : 0 ≤ r ∧ r < 20 := by omega
  rw [hr] at HW0
  obtain ⟨room, hro⟩ : ∃ room, 1 + r = room := ⟨_, rfl⟩
  have HRO := Lib.hid hro
  have HN := Lib.hid (qnew_any (room := room) (by omega) (by omega) w)
  clear hr hro
  by_cases h50 : z1.length ≤ 50 ∧ z2.length ≤ 50 ∧ z3.length ≤ 50
  · have he1 : decide (50 < (z1.length : Int)) = false := decide_eq_false (by omega)
    have he2 : decide (50 < (z2.length : Int)) = false := decide_eq_false (by omega)
    have he3 : decide (50 < (z3.length : Int)) = false := decide_eq_false (by omega)

    go_enter Try.func6, Try.ntmps6
    go_wp2_with fail
    refine (HW0.out _).mono ?_
    rintro e wa ⟨rfl, rfl⟩
    go_wp2_with fail
    rw [HRO.out]
    refine HN.out.mono ?_
    rintro e wb ⟨rfl, hq, hb⟩

    obtain ⟨qb, hqb⟩ : ∃ qb, w.heap.size = qb := ⟨_, rfl⟩
    have hj0 := Jo.start hq hb
    obtain ⟨pb, hpb⟩ : ∃ pb, wb.heap.size = pb := ⟨_, rfl⟩
    rw [hpb] at hj0
    have hj := (fun q (hq' : w.heap.size = q) => (by subst hq'; exact hj0 : Jo (fun k => w.heap.size ≤ k) w.heap.size w _ q pb room 0 _ 0 [])) qb hqb
    have HJ1 := Lib.hid hj
    have HJ1L := Lib.hid (show (0 : Int) ≤ 0 ∧ (0 : Int) ≤ ((0 : Nat) : Int) + 0 by omega)
    clear hq hb hj hj0
    go_wp2_with fail
    clear hpb hqb

    go_loopw [60] (fun s wr => ∃ (k : Nat) (lost : Int) (L : List Bs), s = .int .i64 k ∧ k ≤ z1.length ∧ Hid (Jo (fun k => w.heap.size ≤ k) w.heap.size w wr qb pb room lost (L.map Bs.z) lost L) ∧ Hid (0 ≤ lost ∧ lost ≤ k + 0)) (fun s _ => z1.length - (intOf s).toNat)
    case atStart => exact ⟨0, _, _, rfl, Nat.zero_le _, HJ1.out, HJ1L.out⟩
    case round =>
      obtain ⟨k, lost, L, rfl, hk, HJk, HLo⟩ := hrel
      by_cases hlt : k < z1.length
      · obtain ⟨ad, rfl, _, d0, d1, d2, d3⟩ := act_now HJk.out HA1.out HA1.out.has hlt
        have HX := Lib.hid (HA1.out.came _ (List.getElem_mem hlt))
        obtain ⟨x, hx⟩ : ∃ x, z1[k] = x := ⟨_, rfl⟩
        rw [hx] at d0 d1 d2 d3 HX
        have HD := Lib.hid (act_does HJk.out HX.out (HX.out.b.has) (Nat.le_refl _) HLo.out.1 (by have := HLo.out.2; omega))
        clear hx
        go_wp2_with fail
        refine HD.out.mono ?_
        rintro e w2 ⟨rfl, lost', L', hj2, hl0, hl1⟩
        have HJ2 := Lib.hid hj2
        have HL2 := Lib.hid (show 0 ≤ lost' ∧ lost' ≤ ((k + 1 : Nat) : Int) + 0 from ⟨hl0, by have := HLo.out.2; omega⟩)
        clear hj2 hl0 hl1 d0 d1 d2 d3
        go_wp2_with fail
        go_roundw
        case rel => exact ⟨k + 1, lost', L', by go_num, by omega, HJ2.out, HL2.out⟩
        case measure => simp [intOf]; omega
      · obtain rfl : k = z1.length := by omega
        clear hlt
        obtain ⟨m1, hm1⟩ : ∃ m1, wr.heap.size = m1 := ⟨_, rfl⟩
        have hwm : w.heap.size ≤ m1 := by rw [← hm1]; exact HJk.out.sz
        have HWM := Lib.hid hwm
        have HBr := Lib.hid (show Below w.heap.size w wr from HJk.out.tn.below (Nat.le_refl _) HJk.out.low)
        have HCl := Lib.hid (qclone_any HJk.out.q)
        obtain ⟨lc, hlc⟩ : ∃ lc, lost = lc := ⟨_, rfl⟩
        subst hlc
        obtain ⟨lc, hlc⟩ : ∃ lc, lost = lc := ⟨_, rfl⟩
        rw [hlc] at HCl HJk HLo
        have HLC := Lib.hid (show 0 ≤ lc ∧ lc ≤ 50 from ⟨HLo.out.1, by have := HLo.out.2; omega⟩)
        clear hwm hlc
        go_wp2_with fail
        refine HCl.out.mono ?_
        rintro e w2 ⟨rb, rfl, hq2, hb2⟩
        have hj2 := HJk.out.below hb2 HJk.out.sz
        obtain ⟨vp, p1, p2, -⟩ := hj2.p.ex
        obtain ⟨Ap, cp, rfl, -, -⟩ := own_slice p2
        have HP2 := Lib.hid p1
        have HO2 := Lib.hid p2
        have hp1 := p1.cell 1
        have hp2 := p1.cell 2
        simp only [List.getElem?_toArray, List.getElem?_cons_zero, List.getElem?_cons_succ] at hp1 hp2
        have HQ2 := Lib.hid hq2
        have HB2 := Lib.hid hb2
        have HJ2 := Lib.hid hj2
        have hL256 : L.length ≤ 256 := by have h1 := hj2.q.len; have h2 := hj2.q.r2; rw [List.length_map] at h1; omega
        have HCp := Lib.hid (copy_bs Ap cp L.length w2.heap.size L w2.drew rfl (by omega) ((Has.own p2).drew) (own_noneB p2))
        obtain ⟨n, hn⟩ : ∃ n, L.length = n := ⟨_, rfl⟩
        rw [hn] at hp2 HCp HP2
        have HLN := Lib.hid hn
        clear p1 p2 hq2 hb2 hj2 hn hL256
        go_wp2_with fail
        go_region_held3 (fun w' => w'.cell? ⟨pb, 1, none⟩ = some (.int .i64 lc) ∧ w'.cell? ⟨pb, 2, none⟩ = some (.slice Ap n cp)) (first | exact ⟨hp1, hp2⟩ | exact ⟨hr1, hr2⟩ | go_keep)
          ((go_at_call 22; refine HCp.out.mono ?_; rintro e w5 ⟨v1, rfl, ho1, hb5⟩; obtain ⟨A5, c5, rfl, -, -⟩ := own_slice ho1; have hb5w : Below w2.heap.size w2 w5 := (Below.refl _ w2).drew.trans hb5; have hk5 := Blk.below HP2.out hb5w HP2.out.lt; have hr1 := Blk.cell hk5 1; have hr2 := Blk.cell hk5 2; simp only [List.getElem?_toArray, List.getElem?_cons_zero, List.getElem?_cons_succ] at hr1 hr2))
        have hs5 := hb5w.size
        have hal := (Below.refl w5.heap.size w5).alloc (Nat.le_refl _) (.cells #[.int .i64 room, .int .i64 lc, .slice A5 n c5] 42)
        have hbl5 : Below w2.heap.size w2 (w5.alloc (.cells #[.int .i64 room, .int .i64 lc, .slice A5 n c5] 42)) := hb5w.alloc hs5 _
        have h2m : m1 ≤ w2.heap.size := by rw [← hm1]; exact HB2.out.size
        have hblr : Below wr.heap.size wr (w5.alloc (.cells #[.int .i64 room, .int .i64 lc, .slice A5 n c5] 42)) := HB2.out.trans (hbl5.mono HB2.out.size)
        obtain ⟨sb, hsb⟩ : ∃ sb, w5.heap.size = sb := ⟨_, rfl⟩
        have hpl : Pl (fun k => m1 ≤ k) (w5.alloc (.cells #[.int .i64 room, .int .i64 lc, .slice A5 n c5] 42)) sb room lc L := by
          rw [← hsb]
          refine ⟨by omega, _, Blk.new _ _ _, ?_, fun g hg => ?_⟩
          · rw [HLN.out]
            exact own_low (ho1.alloc _) (Nat.zero_le _)
          · have h1 := (ho1.lt g hg).1
            have h2 : w2.drew.heap.size = w2.heap.size := rfl
            omega
        obtain ⟨w3, hw3⟩ : ∃ w3, w5.alloc (.cells #[.int .i64 room, .int .i64 lc, .slice A5 n c5] 42) = w3 := ⟨_, rfl⟩
        have h3s : w3.heap.size = sb + 1 := by rw [← hw3, ← hsb]; simp
        rw [hw3] at hbl5 hblr hpl ⊢
        rw [hsb]
        have HM1 := Lib.hid (show m1 ≤ w3.heap.size by omega)
        have HM3 := HM1
        have HS3 := Lib.hid (show w.heap.size ≤ w3.heap.size by have := HWM.out; omega)
        have HR3 := Lib.hid (show Jo (fun k => m1 ≤ k) w.heap.size w3 w3 rb sb room lc (L.map Bs.z) lc L from
          ⟨(HQ2.out.mono (R' := fun k => m1 ≤ k) (fun k _ h => by omega)).below hbl5, hpl, fun x hx => ((HJ2.out.in_ x hx).kept (Turn.of_below (Z := fun _ => False) hbl5) (fun _ _ => id)), Turn.refl _ _, fun k hk => by omega, fun k hk h => by have := HWM.out; omega⟩)
        have HJ3 := Lib.hid (show Jo (fun k => w.heap.size ≤ k ∧ ¬ (m1 ≤ k ∧ k < w3.heap.size)) w.heap.size w3 w3 qb pb room lc (L.map Bs.z) lc L from
          ⟨(HJk.out.q.mono (R' := fun k => w.heap.size ≤ k ∧ ¬ (m1 ≤ k ∧ k < w3.heap.size)) (fun k hk h => ⟨h, fun h => by omega⟩)).below hblr,
            (HJk.out.p.mono (R' := fun k => w.heap.size ≤ k ∧ ¬ (m1 ≤ k ∧ k < w3.heap.size)) (fun k hk h => ⟨h, fun h => by omega⟩)).kept (Turn.of_below (Z := fun _ => False) hblr) (fun _ _ _ => id),
            fun x hx => (HJk.out.in_ x hx).kept (Turn.of_below (Z := fun _ => False) hblr) (fun _ _ => id), Turn.refl _ _, fun k hk => ⟨Nat.le_trans HS3.out hk, fun h => by omega⟩, fun k hk h => by omega⟩)
        have HJ3L := Lib.hid (show 0 ≤ lc ∧ lc ≤ ((0 : Nat) : Int) + 50 from ⟨HLC.out.1, by have := HLC.out.2; omega⟩)
        have HB3 := Lib.hid (show Below w.heap.size w w3 from HBr.out.trans (hblr.mono (by have := HWM.out; omega)))
        have HT3 := Lib.hid (show Turn (fun k => w.heap.size ≤ k) w w3 from HJk.out.tn.trans (Turn.of_below hblr))
        clear hbl5 hblr hpl hw3 h3s h2m hal hs5 ho1 hb5 hb5w hk5 hr1 hr2 hp1 hp2 hsb hm1
        go_wp2_with fail

        go_loopw [90] (fun s wr => ∃ (k : Nat) (lost : Int) (L : List Bs), s = .int .i64 k ∧ k ≤ z2.length ∧ Hid (Jo (fun k => w.heap.size ≤ k ∧ ¬ (m1 ≤ k ∧ k < w3.heap.size)) w.heap.size w3 wr qb pb room lost (L.map Bs.z) lost L) ∧ Hid (0 ≤ lost ∧ lost ≤ k + 50)) (fun s _ => z2.length - (intOf s).toNat)
        case atStart => exact ⟨0, _, _, rfl, Nat.zero_le _, HJ3.out, HJ3L.out⟩
        case round =>
          obtain ⟨k, lost, L, rfl, hk, HJk, HLo⟩ := hrel
          by_cases hlt : k < z2.length
          · obtain ⟨ad, rfl, _, d0, d1, d2, d3⟩ := act_now HJk.out HA2.out (has_zone HA2.out.has HT3.out (fun k hk h => by omega)) hlt
            have HX := Lib.hid (HA2.out.came _ (List.getElem_mem hlt))
            obtain ⟨x, hx⟩ : ∃ x, z2[k] = x := ⟨_, rfl⟩
            rw [hx] at d0 d1 d2 d3 HX
            have HD := Lib.hid (act_does HJk.out HX.out (has_zone HX.out.b.has HT3.out (fun k hk h => by omega)) HS3.out HLo.out.1 (by have := HLo.out.2; omega))
            clear hx
            go_wp2_with fail
            refine HD.out.mono ?_
            rintro e w2 ⟨rfl, lost', L', hj2, hl0, hl1⟩
            have HJ2 := Lib.hid hj2
            have HL2 := Lib.hid (show 0 ≤ lost' ∧ lost' ≤ ((k + 1 : Nat) : Int) + 50 from ⟨hl0, by have := HLo.out.2; omega⟩)
            clear hj2 hl0 hl1 d0 d1 d2 d3
            go_wp2_with fail
            go_roundw
            case rel => exact ⟨k + 1, lost', L', by go_num, by omega, HJ2.out, HL2.out⟩
            case measure => simp [intOf]; omega
          · obtain rfl : k = z2.length := by omega
            clear hlt
            have HR4 := Lib.hid (HR3.out.stay HJk.out (fun k hk h h2 => h2.2 ⟨h, hk⟩))
            have HQ4 := Lib.hid HJk.out.here
            have HB4 := Lib.hid (show Below w.heap.size w wr from HB3.out.trans (HJk.out.tn.below HS3.out HJk.out.low))
            have HS4 := Lib.hid (Nat.le_trans HS3.out HJk.out.sz)
            have HM4 := Lib.hid HJk.out.sz
            have HT4 := Lib.hid (show Turn (fun k => w.heap.size ≤ k) w wr from HT3.out.trans (HJk.out.tn.mono (fun k _ h => h.1)))
            obtain ⟨w4, hw4⟩ : ∃ w4, wr = w4 := ⟨_, rfl⟩
            rw [hw4] at HR4 HQ4 HB4 HS4 HT4 HM4 ⊢
            have HR4L := Lib.hid (show 0 ≤ lc ∧ lc ≤ ((0 : Nat) : Int) + 100 from ⟨HLC.out.1, by have := HLC.out.2; omega⟩)
            clear hw4
            go_wp2_with fail

            go_loopw [104] (fun s wr => ∃ (k : Nat) (lost : Int) (L : List Bs), s = .int .i64 k ∧ k ≤ z3.length ∧ Hid (Jo (fun k => (m1 ≤ k) ∧ ¬ (w3.heap.size ≤ k ∧ k < w4.heap.size)) w.heap.size w4 wr rb sb room lost (L.map Bs.z) lost L) ∧ Hid (0 ≤ lost ∧ lost ≤ k + 100)) (fun s _ => z3.length - (intOf s).toNat)
            case atStart => exact ⟨0, _, _, rfl, Nat.zero_le _, HR4.out, HR4L.out⟩
            case round =>
              obtain ⟨k, lost, L, rfl, hk, HJk, HLo⟩ := hrel
              by_cases hlt : k < z3.length
              · obtain ⟨ad, rfl, _, d0, d1, d2, d3⟩ := act_now HJk.out HA3.out (has_zone HA3.out.has HT4.out (fun k hk h => by omega)) hlt
                have HX := Lib.hid (HA3.out.came _ (List.getElem_mem hlt))
                obtain ⟨x, hx⟩ : ∃ x, z3[k] = x := ⟨_, rfl⟩
                rw [hx] at d0 d1 d2 d3 HX
                have HD := Lib.hid (act_does HJk.out HX.out (has_zone HX.out.b.has HT4.out (fun k hk h => by omega)) HS4.out HLo.out.1 (by have := HLo.out.2; omega))
                clear hx
                go_wp2_with fail
                refine HD.out.mono ?_
                rintro e w2 ⟨rfl, lost', L', hj2, hl0, hl1⟩
                have HJ2 := Lib.hid hj2
                have HL2 := Lib.hid (show 0 ≤ lost' ∧ lost' ≤ ((k + 1 : Nat) : Int) + 100 from ⟨hl0, by have := HLo.out.2; omega⟩)
                clear hj2 hl0 hl1 d0 d1 d2 d3
                go_wp2_with fail
                go_roundw
                case rel => exact ⟨k + 1, lost', L', by go_num, by omega, HJ2.out, HL2.out⟩
                case measure => simp [intOf]; omega
              · obtain rfl : k = z3.length := by omega
                clear hlt
                have HJQ := Lib.hid (HQ4.out.stay HJk.out (fun k hk h h2 => h2.2 ⟨Nat.le_of_not_lt (fun hl => h.2 ⟨h2.1, hl⟩), hk⟩))
                have HJR := Lib.hid HJk.out.here
                have HBw := Lib.hid (show Below w.heap.size w wr from HB4.out.trans (HJk.out.tn.below HS4.out HJk.out.low))
                have HAl := Lib.hid (all_any7 HJQ.out (Nat.le_trans HS4.out HJk.out.sz))
                have HSr := Lib.hid (Nat.le_trans HS4.out HJk.out.sz)
                go_wp2_with fail
                refine HAl.out.mono ?_
                rintro e w5 ⟨rfl, hb5⟩
                have HAl2 := Lib.hid (all_any7 (HJR.out.below hb5 HSr.out) (Nat.le_trans HSr.out hb5.size))
                have HB5 := Lib.hid (show Below w.heap.size w w5 from HBw.out.trans (hb5.mono HSr.out))
                have HS5 := Lib.hid (Nat.le_trans HSr.out hb5.size)
                clear hb5
                go_wp2_with fail
                refine HAl2.out.mono ?_
                rintro e w6 ⟨rfl, hb6⟩
                have HB6 := Lib.hid (HB5.out.trans (hb6.mono HS5.out))
                have HS6 := Lib.hid (Nat.le_trans HS5.out hb6.size)
                clear hb6
                go_wp2_with fail
                refine (wakes7_any _).mono ?_
                rintro e w7 ⟨rfl, hb7⟩
                have HB7 := Lib.hid hb7
                clear hb7
                go_wp2_with fail
                go_ret
                exact ⟨rfl, HB6.out.trans (HB7.out.mono HS6.out)⟩
  · by_cases h1 : 50 < z1.length
    · have he1 : decide (50 < (z1.length : Int)) = true := decide_eq_true (by omega)
      clear h50
      go_enter Try.func6, Try.ntmps6
      go_wp2_with fail
      refine (HW0.out _).mono ?_
      rintro e wa ⟨rfl, rfl⟩
      go_wp2_with fail
      rw [HRO.out]
      refine HN.out.mono ?_
      rintro e wb ⟨rfl, hq, hb⟩

      have HB := Lib.hid hb
      clear hq hb hr0
      go_wp2_with fail
      refine (wakes7_any _).mono ?_
      rintro e w6 ⟨rfl, hb6⟩
      have HB6 := Lib.hid hb6
      clear hb6
      go_wp2_with fail
      go_ret
      exact ⟨rfl, HB.out.trans (HB6.out.mono HB.out.size)⟩
    · have he1 : decide (50 < (z1.length : Int)) = false := decide_eq_false (by omega)
      by_cases h2 : 50 < z2.length
      · have he2 : decide (50 < (z2.length : Int)) = true := decide_eq_true (by omega)
        clear h50
        go_enter Try.func6, Try.ntmps6
        go_wp2_with fail
        refine (HW0.out _).mono ?_
        rintro e wa ⟨rfl, rfl⟩
        go_wp2_with fail
        rw [HRO.out]
        refine HN.out.mono ?_
        rintro e wb ⟨rfl, hq, hb⟩

        have HB := Lib.hid hb
        clear hq hb hr0
        go_wp2_with fail
        refine (wakes7_any _).mono ?_
        rintro e w6 ⟨rfl, hb6⟩
        have HB6 := Lib.hid hb6
        clear hb6
        go_wp2_with fail
        go_ret
        exact ⟨rfl, HB.out.trans (HB6.out.mono HB.out.size)⟩
      · have he2 : decide (50 < (z2.length : Int)) = false := decide_eq_false (by omega)
        have he3 : decide (50 < (z3.length : Int)) = true := decide_eq_true (by omega)
        clear h50
        go_enter Try.func6, Try.ntmps6
        go_wp2_with fail
        refine (HW0.out _).mono ?_
        rintro e wa ⟨rfl, rfl⟩
        go_wp2_with fail
        rw [HRO.out]
        refine HN.out.mono ?_
        rintro e wb ⟨rfl, hq, hb⟩

        have HB := Lib.hid hb
        clear hq hb hr0
        go_wp2_with fail
        refine (wakes7_any _).mono ?_
        rintro e w6 ⟨rfl, hb6⟩
        have HB6 := Lib.hid hb6
        clear hb6
        go_wp2_with fail
        go_ret
        exact ⟨rfl, HB.out.trans (HB6.out.mono HB.out.size)⟩
end Go.Proofs.Ytpopchigboacaaa
