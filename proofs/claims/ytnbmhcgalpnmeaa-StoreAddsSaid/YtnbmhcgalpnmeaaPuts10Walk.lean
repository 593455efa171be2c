/- The walk of StorePuts. -/
import Derived.Test.YtnbmhcgalpnmeaaStoreOne
namespace Go.Proofs.Ytnbmhcgalpnmeaa
open Go.RowKit Go.Maps

/-- What the keys have behind i rounds, x put last. -/
def putsV (k : Int) (i : Nat) (x : Int) : Kv := if i = 0 then Kv.new else Kv.new.put k x
theorem putsV_val {k x : Int} {i : Nat} (h : i = 0 → x = 0) : (putsV k i x).val k = x := by
  unfold putsV
  by_cases e : i = 0
  · rw [if_pos e, h e, Kv.val_new]
  · rw [if_neg e, Kv.val_put]
theorem putsV_put (k x v : Int) (i : Nat) : (putsV k i x).put k v = putsV k (i + 1) v := by
  unfold putsV
  rw [if_neg (Nat.succ_ne_zero i)]
  by_cases e : i = 0
  · rw [if_pos e]
  · rw [if_neg e, Kv.put_put]
theorem putsV_del (k x : Int) (i : Nat) : (putsV k i x).del k = Kv.new := by
  unfold putsV
  by_cases e : i = 0
  · rw [if_pos e, Kv.del_new]
  · rw [if_neg e, Kv.del_put, Kv.del_new]
theorem putsV_len {k : Int} (hk : 0 ≤ k ∧ k < 64) (i : Nat) (v : Int) : ((putsV k (i + 1) v).all.length : Int) = 1 := by
  unfold putsV
  rw [if_neg (Nat.succ_ne_zero i), Kv.all_one hk]
  rfl
set_option maxHeartbeats 2000000 in
set_option maxRecDepth 100000 in
theorem storePuts_walk (key : Int) (A : Option Addr) (c : Nat) (zs : List Int) (w : World) (h0 : fit key) (hl : IsList .i64 w A zs c) :
    Calls Try.prog 10 #[.int .i64 key, .slice A zs.length c] w fun e w' => e = .returned (.bool true) ∧ Below w.heap.size w w' := by
  have KA := Lib.hid (fun w => within_any key 64 (by omega) (by omega) (wf_i64 h0).1 (wf_i64 h0).2 w)
  obtain ⟨k, hk⟩ : ∃ k, key % 64 = k := ⟨_, rfl⟩
  have bk := kmod key 64 (by omega)
  rw [hk] at KA bk
  have HK := Lib.hid bk
  have HF := Lib.hid (kfit bk)
  have HL := Lib.hid hl
  clear h0 hk bk hl
  go_enter Try.func10, Try.ntmps10
  go_wp2_with fail
  refine (sn_new w _ (Below.refl _ _)).mono ?_
  rintro e v1 ⟨sb, bm, rfl, h1, _, _, _⟩
  have H1 := Lib.hid (show Sn w sb bm 0 (putsV k 0 0) v1 from h1)
  clear h1
  go_wp2_with fail
  refine (KA.out _).mono ?_
  rintro e u1 ⟨rfl, rfl⟩
  go_wp2_with fail
  go_loopw [6, 7] (fun v y wr => ∃ (i : Nat) (x : Int), y = .int .i64 i ∧ v = .int .i64 x ∧ i ≤ 50 ∧ i ≤ zs.length ∧ (i = 0 → x = 0) ∧ Hid (Sn w sb bm i (putsV k i x) wr)) (fun _ y _ => zs.length - (intOf y).toNat)
  case atStart => exact ⟨0, 0, rfl, rfl, by omega, by omega, fun _ => rfl, H1⟩
  case round =>
    obtain ⟨i, x, rfl, rfl, hi, hi2, hx, HS⟩ := hrel
    by_cases hlt : i < zs.length
    · by_cases h50 : i < 50
      · obtain ⟨ad, z, rfl, hb, hc, _, hmem⟩ := (HL.out.has.below HS.out.low (Nat.le_refl _)).int hlt
        have hz := wf_i64 (HL.out.fits z hmem)
        have KZ := Lib.hid (fun w => within_any z 2000 (by omega) (by omega) hz.1 hz.2 w)
        have bz := kmod z 2000 (by omega)
        obtain ⟨y, hy⟩ : ∃ y, z % 2000 = y := ⟨_, rfl⟩
        rw [hy] at KZ bz
        have hwr : IntKind.i64.wrap (y - 1000) = y - 1000 := IntWalk.i64_in _ ⟨by omega, by omega⟩
        have hw6 : wrap64 (y - 1000) = y - 1000 := IntWalk.wrap64_in _ ⟨by omega, by omega⟩
        have ES := Lib.hid (show storeS (putsV k i x) 1 k (y - 1000) = (x, putsV k (i + 1) (y - 1000)) from by rw [st_put HK.out (by omega), putsV_val hx, putsV_put])
        have EL := Lib.hid (putsV_len HK.out i (y - 1000))
        have HX := Lib.hid hx
        clear hmem hz hy hx
        go_wp2_with fail
        refine (KZ.out _).mono ?_
        rintro e u2 ⟨rfl, rfl⟩
        go_wp2_with fail
        refine (HS.out.does (by omega) ES.out).mono ?_
        rintro e v2 ⟨rfl, h2, _⟩
        have H2 := Lib.hid h2
        clear h2
        go_wp2_with fail
        refine H2.out.len.mono ?_
        rintro e v3 ⟨rfl, rfl⟩
        rw [EL.out]
        go_wp2_with fail
        go_roundw
        case rel => exact ⟨i + 1, y - 1000, by go_num, rfl, by omega, by omega, fun h => absurd h (Nat.succ_ne_zero i), H2⟩
        case measure => simp [intOf]; omega
      · have E1 := Lib.hid (show storeS (putsV k i x) 4 k 0 = (x, Kv.new) from by rw [st_del HK.out (by omega), putsV_val hx, putsV_del])
        have E2 := Lib.hid (show storeS Kv.new 2 k 0 = (0, Kv.new) from by rw [st_get HK.out (by omega), Kv.val_new])
        have E3 := Lib.hid Kv.all_new
        have E4 := Lib.hid (show Kv.new.val k = 0 from rfl)
        have E5 := Lib.hid (show (Kv.new k).isSome = false from rfl)
        clear hx
        go_wp2_with fail
        refine (HS.out.does (by omega) E1.out).mono ?_
        rintro e v2 ⟨rfl, h2, _⟩
        have H2 := Lib.hid h2
        clear h2
        go_wp2_with fail
        refine H2.out.len.mono ?_
        rintro e v3 ⟨rfl, rfl⟩
        rw [E3.out]
        go_wp2_with fail
        refine (H2.out.get HF.out).mono ?_
        rintro e v3 ⟨rfl, rfl⟩
        rw [E4.out, E5.out]
        go_wp2_with fail
        refine (H2.out.does (by omega) E2.out).mono ?_
        rintro e v4 ⟨rfl, h4, _⟩
        have H4 := Lib.hid h4
        clear h4
        go_wp2_with fail
        refine (sn_new w _ H4.out.low).mono ?_
        rintro e v5 ⟨sb2, bm2, rfl, h5, _, _, hb5⟩
        have H5 := Lib.hid h5
        have H6 := Lib.hid (H4.out.below hb5)
        clear h5 hb5
        go_wp2_with fail
        refine (ssame_any H6.out.st H5.out.st).mono ?_
        rintro e v6 ⟨b, rfl, hb, hB⟩
        obtain rfl : b = true := hb.2 rfl
        have H7 := Lib.hid (H6.out.below hB)
        clear hb hB
        go_wp2_with fail
        refine (wakes10_any _).mono ?_
        rintro e v8 ⟨rfl, hb⟩
        have H8 := Lib.hid (H7.out.below hb)
        clear hb
        go_wp2_with fail
        go_ret
        exact ⟨rfl, H8.out.low⟩
    · have E1 := Lib.hid (show storeS (putsV k i x) 4 k 0 = (x, Kv.new) from by rw [st_del HK.out (by omega), putsV_val hx, putsV_del])
      have E2 := Lib.hid (show storeS Kv.new 2 k 0 = (0, Kv.new) from by rw [st_get HK.out (by omega), Kv.val_new])
      have E3 := Lib.hid Kv.all_new
      have E4 := Lib.hid (show Kv.new.val k = 0 from rfl)
      have E5 := Lib.hid (show (Kv.new k).isSome = false from rfl)
      clear hx
      go_wp2_with fail
      refine (HS.out.does (by omega) E1.out).mono ?_
      rintro e v2 ⟨rfl, h2, _⟩
      have H2 := Lib.hid h2
      clear h2
      go_wp2_with fail
      refine H2.out.len.mono ?_
      rintro e v3 ⟨rfl, rfl⟩
      rw [E3.out]
      go_wp2_with fail
      refine (H2.out.get HF.out).mono ?_
      rintro e v3 ⟨rfl, rfl⟩
      rw [E4.out, E5.out]
      go_wp2_with fail
      refine (H2.out.does (by omega) E2.out).mono ?_
      rintro e v4 ⟨rfl, h4, _⟩
      have H4 := Lib.hid h4
      clear h4
      go_wp2_with fail
      refine (sn_new w _ H4.out.low).mono ?_
      rintro e v5 ⟨sb2, bm2, rfl, h5, _, _, hb5⟩
      have H5 := Lib.hid h5
      have H6 := Lib.hid (H4.out.below hb5)
      clear h5 hb5
      go_wp2_with fail
      refine (ssame_any H6.out.st H5.out.st).mono ?_
      rintro e v6 ⟨b, rfl, hb, hB⟩
      obtain rfl : b = true := hb.2 rfl
      have H7 := Lib.hid (H6.out.below hB)
      clear hb hB
      go_wp2_with fail
      refine (wakes10_any _).mono ?_
      rintro e v8 ⟨rfl, hb⟩
      have H8 := Lib.hid (H7.out.below hb)
      clear hb
      go_wp2_with fail
      go_ret
      exact ⟨rfl, H8.out.low⟩
end Go.Proofs.Ytnbmhcgalpnmeaa
