/- The walk of PackParts: it returns true for any parts. -/
import Derived.Test.YtkkaedcgpbjbmaaBoth
import Derived.Test.YtkkaedcgpbjbmaaSameParts
namespace Go.Proofs.Ytkkaedcgpbjbmaa
open Go.RowKit

def lightP (p : Pt) : Bool := decide (p.vs.length ≤ 30) && !heavyC p.cs
def heavyP (l : List Pt) : Bool := !(decide (l.length ≤ 12) && l.all lightP)
theorem heavyP_len {l : List Pt} (h : 12 < l.length) : heavyP l = true := by
  simp [heavyP]; omega
theorem heavyP_one {l : List Pt} {k : Nat} (hk : k < l.length) (h : lightP l[k] = false) : heavyP l = true := by
  unfold heavyP
  rw [Bool.not_eq_true', Bool.and_eq_false_iff]
  refine Or.inr ?_
  rw [List.all_eq_false]
  exact ⟨l[k], List.getElem_mem hk, by simp [h]⟩
theorem heavyP_no {l : List Pt} (h1 : l.length ≤ 12) (h2 : (l.take l.length).all lightP = true) : heavyP l = false := by
  rw [List.take_length] at h2
  simp [heavyP, h1, h2]
theorem allP_more {l : List Pt} {k : Nat} (hk : k < l.length) (h : (l.take k).all lightP = true) (h2 : lightP l[k] = true) : (l.take (k + 1)).all lightP = true := by
  rw [List.take_succ_eq_append_getElem hk, List.all_append]
  simp [h, h2]
theorem lightP_of {l : List Pt} (h : heavyP l = false) : l.length ≤ 12 ∧ ∀ p ∈ l, p.vs.length ≤ 30 ∧ heavyC p.cs = false := by
  simp only [heavyP, Bool.not_eq_false', Bool.and_eq_true, decide_eq_true_eq, List.all_eq_true] at h
  exact ⟨h.1, fun p hp => by have := h.2 p hp; simpa [lightP] using this⟩
theorem parts_toks {l : List Pt} (h : heavyP l = false) : (listToks Pt.toks l).length ≤ 33649 := by
  obtain ⟨h1, h2⟩ := lightP_of h
  have h3 : (l.flatMap Pt.toks).length ≤ l.length * 2804 := flatMap_le fun p hp => by
    have h4 := h2 p hp
    have h5 := certs_toks h4.2
    rw [part_toks]; omega
  have h4 : l.length * 2804 ≤ 12 * 2804 := Nat.mul_le_mul_right _ h1
  simp only [listToks, List.length_cons]
  omega
theorem lightP_small {l : List Pt} (h : heavyP l = false) : ∀ x ∈ l, smallPart x := fun x hx => by
  have h1 := (lightP_of h).2 x hx
  have h2 := light_of h1.2
  exact ⟨by omega, by omega, fun c hc => by have := h2.2 c hc; exact ⟨by omega, by omega⟩⟩

set_option maxHeartbeats 2000000 in
set_option maxRecDepth 100000 in
theorem heavy_parts (A : Option Addr) (c : Nat) (l : List Pt) (w : World) (hh : HasParts w w.heap.size A l) :
    Calls Try.prog 33 #[.agg #[.int .i64 0, .int .i64 0, .int .i64 0, .int .i64 0, .int .i64 0, .int .i64 0, .slice none 0 0, .slice none 0 0, .slice none 0 0, .slice A l.length c]] w fun e w' => e = .returned (.bool (heavyP l)) ∧ Below w.heap.size w w' := by
  have HB := Lib.hid ((Below.refl w.heap.size w).alloc (Nat.le_refl _) (.cells #[.int .i64 0, .int .i64 0, .int .i64 0, .int .i64 0, .int .i64 0, .int .i64 0, .slice none 0 0, .slice none 0 0, .slice none 0 0, .slice A l.length c] 62))
  have HH := Lib.hid (hh.reads (fun _ _ h => h.below HB.out (Nat.le_refl _)))
  have HN := Lib.hid (heavy_certs none 0 [] 0 (w.alloc (.cells #[.int .i64 0, .int .i64 0, .int .i64 0, .int .i64 0, .int .i64 0, .int .i64 0, .slice none 0 0, .slice none 0 0, .slice none 0 0, .slice A l.length c] 62)) ⟨[], rfl, Has.nil _ _ _, by simp⟩)
  rw [show heavyC [] = false from rfl] at HN
  clear hh
  by_cases hlen : 12 < l.length
  · have HE := Lib.hid (heavyP_len hlen)
    go_enter Try.func33, Try.ntmps33
    go_wp2_with fail
    refine (HN.out).mono ?_
    rintro e w1 ⟨rfl, rfl⟩
    go_wp2_with fail
    go_ret
    exact ⟨by rw [HE.out]; rfl, HB.out⟩
  · have hle2 : l.length ≤ 12 := by omega
    go_enter Try.func33, Try.ntmps33
    go_wp2_with fail
    refine (HN.out).mono ?_
    rintro e w1 ⟨rfl, rfl⟩
    go_wp2_with fail
    go_loop [3] (fun x => ∃ k : Nat, x = .int .i64 k ∧ k ≤ l.length ∧ Hid ((l.take k).all lightP = true)) (fun x => l.length - (intOf x).toNat)
    case atStart => exact ⟨0, rfl, Nat.zero_le _, rfl⟩
    case round =>
      obtain ⟨k, rfl, hk, HT⟩ := hrel
      by_cases hlt : k < l.length
      · obtain ⟨ad, x, rfl, hab, hx, ix, c0, c1, c2, c3⟩ := HH.out.at hlt
        have HX := Lib.hid hx
        have HV := Lib.hid (fun W h => heavy_certs x.A2 x.c2 x.p.cs w.heap.size W h)
        have HI := Lib.hid ix.cs
        clear hx ix
        by_cases h1 : 30 < x.p.vs.length
        · have HE := Lib.hid (heavyP_one hlt (by rw [← HX.out]; simp [lightP]; omega))
          go_wp2_with fail
          go_ret
          exact ⟨by rw [HE.out]; rfl, HB.out⟩
        · have h1' : x.p.vs.length ≤ 30 := by omega
          cases hv : heavyC x.p.cs with
          | true =>
            rw [hv] at HV
            have HE := Lib.hid (heavyP_one hlt (by rw [← HX.out]; simp [lightP, hv]))
            clear hv
            go_wp2_with fail
            refine (HV.out _ HI.out).mono ?_
            rintro e w1 ⟨rfl, rfl⟩
            go_wp2_with fail
            go_ret
            exact ⟨by rw [HE.out]; rfl, HB.out⟩
          | false =>
            rw [hv] at HV
            have HE := Lib.hid (allP_more hlt HT.out (by rw [← HX.out]; simp [lightP, hv]; omega))
            clear hv
            go_wp2_with fail
            refine (HV.out _ HI.out).mono ?_
            rintro e w1 ⟨rfl, rfl⟩
            go_wp2
            go_round
            case rel => exact ⟨k + 1, by go_num, by omega, HE.out⟩
            case measure => simp [intOf]; omega
      · have hke : k = l.length := by omega
        subst hke
        have HE := Lib.hid (heavyP_no hle2 HT.out)
        go_wp2_with fail
        go_ret
        exact ⟨by rw [HE.out]; rfl, HB.out⟩

theorem u8_12 : ∀ z ∈ [(1 : Int), 2], 0 ≤ z ∧ z ≤ 255 := by simp
theorem same_parts_is {A A' : Option Addr} {c c' la lb : Nat} {zs ys : List Pt} {B : Nat} {r : Bool} (ha : zs.length = la) (hb : ys.length = lb) (hl : la ≤ 9223372036854775806) (hr : sameL zs ys = r) (hs : ∀ x ∈ zs, smallPart x)
    (w : World) (hB : B ≤ w.heap.size) (h1 : HasParts w B A zs) (h2 : HasParts w B A' ys) :
    Calls Try.prog 37 #[.slice A la c, .slice A' lb c'] w fun e w' => e = .returned (.bool r) ∧ Below w.heap.size w w' := by
  subst ha; subst hb; subst hr
  exact same_parts A A' c c' zs ys B w hl h1 h2 hB hs

set_option maxHeartbeats 4000000 in
set_option maxRecDepth 100000 in
theorem packParts_walk (A : Option Addr) (c : Nat) (l : List Pt) (w : World) (w0 : IsParts w A l c) :
    Calls Try.prog 8 #[.slice A l.length c] w fun e w' => e = .returned (.bool true) ∧ Below w.heap.size w w' := by
  obtain ⟨i0, hi, hz0, hz1, hz2⟩ := info_parts Try.info5
  have hc := w0.le
  have hm := w0.most
  have HH := Lib.hid w0.has
  have HV := Lib.hid (heavy_parts A c l w w0.has)
  unfold maxLen at hm
  clear w0
  cases hv : heavyP l with
  | true =>
    rw [hv] at HV
    clear hv
    go_enter Try.func8, Try.ntmps8
    go_wp2_with fail
    refine (HV.out).mono ?_
    rintro e w1 ⟨rfl, hb1⟩
    go_wp2_with fail
    refine (wakes_any _).mono ?_
    rintro e wz ⟨rfl, hbz⟩
    go_wp2_with fail
    go_ret
    exact ⟨rfl, hb1.trans (hbz.mono hb1.size)⟩
  | false =>
    rw [hv] at HV
    have hts := parts_toks hv
    have HSm := Lib.hid (lightP_small hv)
    have hl12 := (lightP_of hv).1
    clear hv
    rcases hra : bytesOf (listToks Pt.toks l) with _ | bs
    · have HRA := Lib.hid hra
      clear hra
      go_enter Try.func8, Try.ntmps8
      go_wp2_with fail
      refine (HV.out).mono ?_
      rintro e w1 ⟨rfl, hb1⟩
      go_wp2_with fail
      refine (pack_parts l A c _ (HH.out.reads (fun _ _ h => (h.below hb1 (Nat.le_refl _)).more hb1.size)) (by omega)).mono ?_
      rintro e w2 h
      obtain ⟨rfl, hb2⟩ := h.no HRA.out
      clear h
      have hc2 := hb1.trans (hb2.mono hb1.size)
      go_wp2_with fail
      refine (ref_parts l A c _ (HH.out.reads (fun _ _ h => (h.below hc2 (Nat.le_refl _)).more hc2.size)) (by omega)).mono ?_
      rintro e w3 h
      obtain ⟨rfl, hb3⟩ := h.no HRA.out
      clear h
      have hc3 := hc2.trans (hb3.mono hc2.size)
      go_wp2_with fail
      refine (same_law_no _).mono ?_
      rintro e w4 ⟨rfl, hb4⟩
      have hc4 := hc3.trans (hb4.mono hc3.size)
      go_wp2_with fail
      refine (wakes_any _).mono ?_
      rintro e wz ⟨rfl, hbz⟩
      go_wp2_with fail
      go_ret
      exact ⟨rfl, hc4.trans (hbz.mono hc4.size)⟩
    · have HRA := Lib.hid hra
      have hla := bytesOf_len hra
      have hlb : bs.length ≤ 201894 := by omega
      have HU := Lib.hid (bytesOf_u8 hra)
      have HTk := Lib.hid (taken (f := tkParts) tells_parts hra [1, 2] u8_12)
      have HL2 := Lib.hid (show (bs ++ [1, 2]).length = bs.length + 2 by simp)
      clear hra hla
      go_enter Try.func8, Try.ntmps8
      go_wp2_with fail
      refine (HV.out).mono ?_
      rintro e w1 ⟨rfl, hb1⟩
      go_wp2_with fail
      refine (pack_parts l A c _ (HH.out.reads (fun _ _ h => (h.below hb1 (Nat.le_refl _)).more hb1.size)) (by omega)).mono ?_
      rintro e w2 ⟨hb2, ⟨b2, A1, d1, hbo, rfl, ho1⟩ | ⟨hbo, _⟩⟩
      · have hbe : b2 = bs := Option.some.inj (hbo.symm.trans HRA.out)
        subst hbe
        have hc2 := hb1.trans (hb2.mono hb1.size)
        have HA1 := Lib.hid (Has.own ho1)
        have HO1 := Lib.hid (own_base ho1 hb1.size)
        clear hbo ho1
        go_wp2_with fail
        refine (ref_parts l A c _ (HH.out.reads (fun _ _ h => (h.below hc2 (Nat.le_refl _)).more hc2.size)) (by omega)).mono ?_
        rintro e w3 h
        obtain ⟨A2, d2, rfl, hA2, _, _, hb3⟩ := h.yes HRA.out
        have HA2 := Lib.hid hA2
        clear h hA2
        have hc3 := hc2.trans (hb3.mono hc2.size)
        have HA1b := Lib.hid ((HA1.out.below hb3 (Nat.le_refl _)).more hb3.size)
        go_wp2_with fail
        refine (same_law_yes _ _ _ _ _ b2 (by omega) _ HA1b.out HA2.out).mono ?_
        rintro e w4 ⟨rfl, hb4⟩
        have hc4 := hc3.trans (hb4.mono hc3.size)
        have HO4 := Lib.hid (below_own (below_own HO1.out hb3 (Nat.le_refl _)) hb4 (Nat.le_refl _))
        have hs5 := hc4.size
        go_wp2_with (at_builtin; refine wpList_app rfl (.tmp 34) (.tmp 35) 24 rfl w.heap.size 5 i0 (.int .u8 0) 1 Try.underlying24 hi hz0 hz1 hz2 rfl _ _ _ rfl (HO4.out.alloc _) _ (some ⟨w4.heap.size, 0, none⟩) 2 2 (u8s [1, 2]) rfl rfl (Has.fresh w4 #[.int .u8 1, .int .u8 2] 5) (fun h => by cases h) (u8s_one _) (by unfold maxLen; omega) (by omega) (by simp; omega) ?_)
        intro v5 w5 ho5 hg5 hb5
        obtain ⟨A5, d5, rfl, hq1, hq2⟩ := own_slice ho5
        have HA5 := Lib.hid (Has.own ho5)
        rw [← u8s_app] at HA5
        have hc5 := (hc4.alloc hc4.size (.cells #[.int .u8 1, .int .u8 2] 5)).trans hb5
        have HU2 := Lib.hid (show ∀ z ∈ b2 ++ [1, 2], 0 ≤ z ∧ z ≤ 255 from fun z hz => (List.mem_append.1 hz).elim (HU.out z) (u8_12 z))
        clear ho5 hg5 hb5
        go_wp2_with fail
        refine (take_parts_yes HL2.out HTk.out (by omega) (by omega) HU2.out _ (Nat.le_refl _) HA5.out).mono ?_
        rintro e w6 ⟨A6, d6, rfl, hk6, hl6, ho6, hb6⟩
        have hc6 := hc5.trans (hb6.mono hc5.size)
        have HA6 := Lib.hid ho6.has
        clear ho6
        go_wp2_with fail
        refine (same_parts_is rfl rfl (by omega) (sameL_true.2 rfl) HSm.out _ (Nat.le_refl _) HA6.out (HH.out.reads (fun _ _ h => (h.below hc6 (Nat.le_refl _)).more hc6.size))).mono ?_
        rintro e w7 ⟨rfl, hb7⟩
        have hc7 := hc6.trans (hb7.mono hc6.size)
        go_wp2_with fail
        refine (wakes_any _).mono ?_
        rintro e wz ⟨rfl, hbz⟩
        go_wp2_with fail
        go_ret
        exact ⟨rfl, hc7.trans (hbz.mono hc7.size)⟩
      · exact absurd (HRA.out.symm.trans hbo) (by simp)
end Go.Proofs.Ytkkaedcgpbjbmaa
