/- The walk of StoreAdds. -/
import Derived.Test.YtnbmhcgalpnmeaaStoreTwo
import Derived.Test.YtnbmhcgalpnmeaaPuts10Walk
namespace Go.Proofs.Ytnbmhcgalpnmeaa
open Go.RowKit Go.Maps

def psum (f : Nat → Int) : Nat → Int
  | 0 => 0
  | n + 1 => psum f n + f n
theorem psum_head (f : Nat → Int) : ∀ n, psum f (n + 1) = f 0 + psum (fun j => f (j + 1)) n
  | 0 => by simp [psum]
  | n + 1 => by
    show psum f (n + 1) + f (n + 1) = f 0 + (psum (fun j => f (j + 1)) n + f (n + 1))
    rw [psum_head f n]
    omega
theorem psum_back (f : Nat → Int) : ∀ n, psum (fun j => f (n - 1 - j)) n = psum f n
  | 0 => rfl
  | n + 1 => by
    rw [psum_head]
    have h1 := psum_back f n
    have h2 : (fun j => f (n + 1 - 1 - (j + 1))) = fun j => f (n - 1 - j) := by funext j; congr 1; omega
    rw [h2, h1]
    show f (n + 1 - 1 - 0) + psum f n = psum f n + f n
    have h3 : n + 1 - 1 - 0 = n := by omega
    rw [h3]
    omega
theorem psum_in (f : Nat → Int) (h : ∀ j, -1000 ≤ f j ∧ f j ≤ 1000) : ∀ n : Nat, -(1000 * (n : Int)) ≤ psum f n ∧ psum f n ≤ 1000 * (n : Int)
  | 0 => by simp [psum]
  | n + 1 => by
    have h1 := psum_in f h n
    have h2 := h n
    show -(1000 * ((n + 1 : Nat) : Int)) ≤ psum f n + f n ∧ psum f n + f n ≤ 1000 * ((n + 1 : Nat) : Int)
    omega
/-- What is added in round j. -/
def addF (zs : List Int) (j : Nat) : Int := zs.getD j 0 % 2001 - 1000
theorem addF_in (zs : List Int) (j : Nat) : -1000 ≤ addF zs j ∧ addF zs j ≤ 1000 := by
  unfold addF
  have := kmod (zs.getD j 0) 2001 (by omega)
  omega
def addG (zs : List Int) (j : Nat) : Int := addF zs (zs.length - 1 - j)
theorem putsV_add {k x v : Int} {i : Nat} (hk : 0 ≤ k ∧ k < 64) (h : i = 0 → x = 0) (hx : -100000 ≤ x ∧ x ≤ 100000) (hv : -1000 ≤ v ∧ v ≤ 1000) : storeS (putsV k i x) 3 k v = (x + v, putsV k (i + 1) (x + v)) := by
  rw [st_add hk (by omega) (by rw [putsV_val h]; omega), putsV_val h, putsV_put]
theorem putsV_has (k x : Int) (n : Nat) : (putsV k n x k).isSome = decide (0 < n) := by
  unfold putsV
  by_cases e : n = 0
  · rw [if_pos e, e]; rfl
  · rw [if_neg e, Kv.put_same, decide_eq_true (by omega)]; rfl
set_option maxHeartbeats 4000000 in
set_option maxRecDepth 100000 in
theorem storeAdds_walk (key : Int) (A : Option Addr) (c : Nat) (zs : List Int) (w : World) (h0 : fit key) (hl : IsList .i64 w A zs c) :
    Calls Try.prog 3 #[.int .i64 key, .slice A zs.length c] w fun e w' => e = .returned (.bool true) ∧ Below w.heap.size w w' := by
  have KA := Lib.hid (fun w => within_any key 64 (by omega) (by omega) (wf_i64 h0).1 (wf_i64 h0).2 w)
  obtain ⟨k, hk⟩ : ∃ k, key % 64 = k := ⟨_, rfl⟩
  have bk := kmod key 64 (by omega)
  rw [hk] at KA bk
  have HK := Lib.hid bk
  have HF := Lib.hid (kfit bk)
  have HL := Lib.hid hl
  clear h0 hk bk hl
  by_cases h50 : 50 < zs.length
  · go_enter Try.func3, Try.ntmps3
    go_wp2_with fail
    refine (KA.out _).mono ?_
    rintro e u1 ⟨rfl, rfl⟩
    go_wp2_with fail
    refine (sn_new w _ (Below.refl _ _)).mono ?_
    rintro e v1 ⟨sb, bm, rfl, h1, _, _, _⟩
    have H1 := Lib.hid h1
    clear h1
    go_wp2_with fail
    refine (S2.new H1.out).mono ?_
    rintro e v2 ⟨tb, tm, rfl, h2⟩
    have H2 := Lib.hid h2
    clear h2
    go_wp2_with fail
    refine (wakes10_any _).mono ?_
    rintro e v8 ⟨rfl, hb⟩
    have H8 := Lib.hid (H2.out.below hb)
    clear hb
    go_wp2_with fail
    go_ret
    exact ⟨rfl, H8.out.low⟩
  · go_enter Try.func3, Try.ntmps3
    go_wp2_with fail
    refine (KA.out _).mono ?_
    rintro e u1 ⟨rfl, rfl⟩
    go_wp2_with fail
    refine (sn_new w _ (Below.refl _ _)).mono ?_
    rintro e v1 ⟨sb, bm, rfl, h1, _, _, _⟩
    have H1 := Lib.hid h1
    clear h1
    go_wp2_with fail
    refine (S2.new H1.out).mono ?_
    rintro e v2 ⟨tb, tm, rfl, h2⟩
    have H2 := Lib.hid (show S2 w sb bm 0 (putsV k 0 (psum (addF zs) 0)) tb tm 0 (putsV k 0 (psum (addG zs) 0)) v2 from h2)
    clear h2
    go_wp2_with fail
    go_loopw [7, 39] (fun v y wr => ∃ i : Nat, y = .int .i64 i ∧ v = .int .i64 (psum (addF zs) i) ∧ i ≤ zs.length ∧ Hid (S2 w sb bm i (putsV k i (psum (addF zs) i)) tb tm i (putsV k i (psum (addG zs) i)) wr)) (fun _ y _ => zs.length - (intOf y).toNat)
    case atStart => exact ⟨0, rfl, rfl, by omega, H2⟩
    case round =>
      obtain ⟨i, rfl, rfl, hi, HS⟩ := hrel
      by_cases hlt : i < zs.length
      · obtain ⟨ad, z, rfl, hb, hc, hd, hmem⟩ := (HL.out.has.below HS.out.low (Nat.le_refl _)).int hlt
        obtain ⟨j, hj⟩ : ∃ j, zs.length - 1 - i = j := ⟨_, rfl⟩
        have hjl : j < zs.length := by omega
        have HJ := Lib.hid hjl
        have hz := wf_i64 (HL.out.fits z hmem)
        have KZ := Lib.hid (fun w => within_any z 2001 (by omega) (by omega) hz.1 hz.2 w)
        have hf : z % 2001 - 1000 = addF zs i := by
          unfold addF
          have : zs[i]? = some z := by have := congrArg (·[0]?) hd; simpa using this
          rw [List.getD_eq_getElem?_getD, this]
          rfl
        have bz := kmod z 2001 (by omega)
        obtain ⟨y, hy⟩ : ∃ y, z % 2001 = y := ⟨_, rfl⟩
        rw [hy] at KZ bz hf
        have hin := psum_in (addF zs) (addF_in zs) i
        have hin2 := psum_in (addG zs) (fun j => addF_in zs _) i
        have hs : psum (addF zs) (i + 1) = psum (addF zs) i + (y - 1000) := by rw [hf]; rfl
        obtain ⟨S0, hS0⟩ : ∃ S0, psum (addF zs) i = S0 := ⟨_, rfl⟩
        rw [hS0] at hin hs
        have HS0 := Lib.hid hS0
        have hwr : IntKind.i64.wrap (y - 1000) = y - 1000 := IntWalk.i64_in _ ⟨by omega, by omega⟩
        have hw6 : wrap64 (y - 1000) = y - 1000 := IntWalk.wrap64_in _ ⟨by omega, by omega⟩
        have hwr2 : IntKind.i64.wrap (S0 + (y - 1000)) = S0 + (y - 1000) := IntWalk.i64_in _ ⟨by omega, by omega⟩
        have hw62 : wrap64 (S0 + (y - 1000)) = S0 + (y - 1000) := IntWalk.wrap64_in _ ⟨by omega, by omega⟩
        have ES := Lib.hid (show storeS (putsV k i S0) 3 k (y - 1000) = (S0 + (y - 1000), putsV k (i + 1) (S0 + (y - 1000))) from putsV_add HK.out (fun h => by rw [← hS0, h]; rfl) (by omega) (by omega))
        have HNx := Lib.hid hs
        have HIn2 := Lib.hid hin2
        have e1 : IntKind.i64.wrap ((zs.length : Int) - 1) = (zs.length : Int) - 1 := IntWalk.i64_in _ ⟨by omega, by omega⟩
        have e2 : IntKind.i64.wrap ((zs.length : Int) - 1 - (i : Int)) = (j : Int) := by rw [IntWalk.i64_in _ ⟨by omega, by omega⟩]; omega
        have HS1 := Lib.hid HS.out
        rw [hS0] at HS1
        rw [hS0]
        have HLow := Lib.hid HS.out.low
        clear hmem hz hy hd hf hin hin2 hs hS0 hjl HS
        go_wp2_with fail
        refine (KZ.out _).mono ?_
        rintro e u2 ⟨rfl, rfl⟩
        go_wp2_with fail
        have KL := Lib.hid (HS1.out.left (by omega) 3 k (y - 1000))
        rw [ES.out] at KL
        refine KL.out.mono ?_
        rintro e v3 ⟨rfl, h3, _⟩
        have H3 := Lib.hid h3
        obtain ⟨ad', z', ea, _, hc', hd', hmem'⟩ := (HL.out.has.below h3.low (Nat.le_refl _)).int (j := j) HJ.out
        obtain rfl := Option.some.inj ea
        have hz' := wf_i64 (HL.out.fits z' hmem')
        have KZ' := Lib.hid (fun w => within_any z' 2001 (by omega) (by omega) hz'.1 hz'.2 w)
        have hf' : z' % 2001 - 1000 = addG zs i := by
          unfold addG addF
          rw [hj]
          have : zs[j]? = some z' := by have := congrArg (·[0]?) hd'; simpa using this
          rw [List.getD_eq_getElem?_getD, this]
          rfl
        have bz' := kmod z' 2001 (by omega)
        obtain ⟨y', hy'⟩ : ∃ y', z' % 2001 = y' := ⟨_, rfl⟩
        rw [hy'] at KZ' bz' hf'
        have hs' : psum (addG zs) (i + 1) = psum (addG zs) i + (y' - 1000) := by rw [hf']; rfl
        have hwr' : IntKind.i64.wrap (y' - 1000) = y' - 1000 := IntWalk.i64_in _ ⟨by omega, by omega⟩
        have hw6' : wrap64 (y' - 1000) = y' - 1000 := IntWalk.wrap64_in _ ⟨by omega, by omega⟩
        have ES' := Lib.hid (show storeS (putsV k i (psum (addG zs) i)) 3 k (y' - 1000) = (psum (addG zs) i + (y' - 1000), putsV k (i + 1) (psum (addG zs) i + (y' - 1000))) from putsV_add HK.out (fun h => by rw [h]; rfl) (by have := HIn2.out; omega) (by omega))
        have HNx' := Lib.hid hs'
        clear h3 hmem' hz' hy' hd' hf' hs' ea hc
        go_wp2_with fail
        refine (KZ'.out _).mono ?_
        rintro e u3 ⟨rfl, rfl⟩
        go_wp2_with fail
        have KR := Lib.hid (H3.out.right (by omega) 3 k (y' - 1000))
        rw [ES'.out] at KR
        refine KR.out.mono ?_
        rintro e v4 ⟨rfl, h4, _⟩
        have H4 := Lib.hid (show S2 w sb bm (i + 1) (putsV k (i + 1) (psum (addF zs) (i + 1))) tb tm (i + 1) (putsV k (i + 1) (psum (addG zs) (i + 1))) v4 from by rw [HNx.out, HNx'.out]; exact h4)
        clear h4
        go_wp2_with fail
        go_roundw
        case rel => exact ⟨i + 1, by go_num, by rw [HNx.out], by omega, H4⟩
        case measure => simp [intOf]; omega
      · obtain rfl : i = zs.length := by omega
        have HE := Lib.hid (show psum (addG zs) zs.length = psum (addF zs) zs.length from psum_back (addF zs) zs.length)
        have HS1 := Lib.hid HS.out
        rw [HE.out] at HS1
        have EV := Lib.hid (show (putsV k zs.length (psum (addF zs) zs.length)).val k = psum (addF zs) zs.length from putsV_val (fun h => by rw [h]; rfl))
        have EH := Lib.hid (putsV_has k (psum (addF zs) zs.length) zs.length)
        have eb : decide ((0 : Int) < (zs.length : Int)) = decide (0 < zs.length) := by congr 1; simp
        clear HS hlt
        go_wp2_with fail
        refine (HS1.out.s.get HF.out).mono ?_
        rintro e v3 ⟨rfl, rfl⟩
        rw [EV.out, EH.out]
        go_wp2_with fail
        refine (ssame_any HS1.out.s.st HS1.out.t.st).mono ?_
        rintro e v6 ⟨b, rfl, hb, hB⟩
        obtain rfl : b = true := hb.2 rfl
        have H7 := Lib.hid (HS1.out.below hB)
        clear hb hB
        go_wp2_with fail
        refine (wakes10_any _).mono ?_
        rintro e v8 ⟨rfl, hb⟩
        have H8 := Lib.hid (H7.out.below hb)
        clear hb
        go_wp2_with fail
        go_ret
        exact ⟨rfl, H8.out.low⟩
end Go.Proofs.Ytnbmhcgalpnmeaa
