/- The contracts of package pack's takers of a length and of a request. -/
import Derived.Test.YtkkaedcgpbjbmaaRefs
import Derived.Test.YtkkaedcgpbjbmaaLists
namespace Go.Proofs.Ytkkaedcgpbjbmaa
open Go.RowKit

/-- What a taker of a number answers. -/
def NumTaken (f : Tkr Int) (zs : List Int) (i : Int) (w : World) (e : Ending) (w' : World) : Prop :=
  w = w' ∧ ((∃ (m : Int) (k : Nat), f i = some (m, (k : Int)) ∧ k ≤ zs.length ∧ e = .returned (.tuple #[.int .i64 m, .int .i64 k, .bool true])) ∨
    (f i = none ∧ e = .returned (.tuple #[.int .i64 0, .int .i64 0, .bool false])))
theorem take_num (A : Option Addr) (cap : Nat) (zs : List Int) (B : Nat) (i : Int) (hl : zs.length ≤ 9223372036854775806) (hi : i ≤ 9223372036854775807) (hz : ∀ z ∈ zs, 0 ≤ z ∧ z ≤ 255) (w : World) (hh : Has w B A (u8s zs)) :
    Calls Try.prog 51 #[.slice A zs.length cap, .int .i64 i] w (NumTaken (tkNum zs) zs i w) :=
  (take_any A cap zs B i w hl hi hz hh).mono fun e w' ⟨he, hw⟩ => by
    refine ⟨hw, ?_⟩
    rcases tk_cases zs i hz with ⟨h1, h2⟩ | ⟨m, p, q, _, h1, h2, _, h3, _⟩
    · rw [h2] at he
      exact Or.inr ⟨by simp [tkNum, h1], he⟩
    · rw [h2] at he
      exact Or.inl ⟨m, q, by simp [tkNum, h1], h3, he⟩
theorem take_sgn (A : Option Addr) (cap : Nat) (zs : List Int) (B : Nat) (i : Int) (hl : zs.length ≤ 9223372036854775806) (hi : i ≤ 9223372036854775807) (hz : ∀ z ∈ zs, 0 ≤ z ∧ z ≤ 255) (w : World) (hh : Has w B A (u8s zs)) :
    Calls Try.prog 55 #[.slice A zs.length cap, .int .i64 i] w (NumTaken (tkSgn zs) zs i w) :=
  (takesigned_any A cap zs B i w hl hi hz hh).mono fun e w' ⟨he, hw⟩ => by
    refine ⟨hw, ?_⟩
    rcases tk_cases zs i hz with ⟨h1, h2⟩ | ⟨m, p, q, _, h1, h2, _, h3, _⟩
    · rw [h2] at he
      exact Or.inr ⟨by simp [tkSgn, h1], he⟩
    · rw [h2] at he
      exact Or.inl ⟨zagS m, q, by simp [tkSgn, h1], h3, he⟩

theorem take_eq {A : Option Addr} {cap : Nat} {zs : List Int} {B : Nat} {i n q : Int} {b : Bool} (h : takeS zs i = (n, q, b)) (hl : zs.length ≤ 9223372036854775806) (hi : i ≤ 9223372036854775807) (hz : ∀ z ∈ zs, 0 ≤ z ∧ z ≤ 255) (w : World) (hh : Has w B A (u8s zs)) :
    Calls Try.prog 51 #[.slice A zs.length cap, .int .i64 i] w fun e w' => e = .returned (.tuple #[.int .i64 n, .int .i64 q, .bool b]) ∧ w = w' := by
  have h1 := take_any A cap zs B i w hl hi hz hh
  rw [h] at h1
  exact h1
/-- What takeLength answers. -/
def LenTaken (zs : List Int) (i : Int) (w : World) (e : Ending) (w' : World) : Prop :=
  w = w' ∧ ((∃ (n k : Nat), tkLen zs i = some (n, (k : Int)) ∧ n ≤ 256 ∧ k ≤ zs.length ∧ e = .returned (.tuple #[.int .i64 n, .int .i64 k, .bool true])) ∨
    (tkLen zs i = none ∧ e = .returned (.tuple #[.int .i64 0, .int .i64 0, .bool false])))
set_option maxHeartbeats 400000 in
set_option maxRecDepth 100000 in
theorem take_length (A : Option Addr) (cap : Nat) (zs : List Int) (B : Nat) (i : Int) (hl : zs.length ≤ 9223372036854775806) (hi : i ≤ 9223372036854775807) (hz : ∀ z ∈ zs, 0 ≤ z ∧ z ≤ 255) (w : World) (hh : Has w B A (u8s zs)) :
    Calls Try.prog 50 #[.slice A zs.length cap, .int .i64 i] w (LenTaken zs i w) := by
  have HH := Lib.hid hh
  rcases tk_cases zs i hz with ⟨h1, h2⟩ | ⟨m, p, q, rfl, h1, h2, _, h3, h4, _⟩
  · have HC := Lib.hid (fun w h => take_eq (A := A) (B := B) (cap := cap) h2 hl hi hz w h)
    have HR : Hid (LenTaken zs i w (.returned (.tuple #[.int .i64 0, .int .i64 0, .bool false])) w) := ⟨rfl, Or.inr ⟨by simp [tkLen, h1], rfl⟩⟩
    clear h1 h2 hh hz
    go_enter Try.func50, Try.ntmps50
    go_wp2_with fail
    refine (HC.out _ HH.out).mono ?_
    rintro e w1 ⟨rfl, rfl⟩
    go_wp2_with fail
    go_ret3
    exact HR.out
  · have HC := Lib.hid (fun w h => take_eq (A := A) (B := B) (cap := cap) h2 hl hi hz w h)
    by_cases hm : m ≤ 256
    · have HR : Hid (LenTaken zs p w (.returned (.tuple #[.int .i64 m, .int .i64 q, .bool true])) w) := ⟨rfl, Or.inl ⟨m, q, by simp [tkLen, h1, hm], hm, h3, rfl⟩⟩
      clear h1 h2 hh hz h4
      go_enter Try.func50, Try.ntmps50
      go_wp2_with fail
      refine (HC.out _ HH.out).mono ?_
      rintro e w1 ⟨rfl, rfl⟩
      go_wp2_with fail
      go_ret3
      exact HR.out
    · have HR : Hid (LenTaken zs p w (.returned (.tuple #[.int .i64 0, .int .i64 0, .bool false])) w) := ⟨rfl, Or.inr ⟨by simp [tkLen, h1, hm], rfl⟩⟩
      have hm2 : 256 < m := by omega
      clear h1 h2 hh hz h4 hm
      go_enter Try.func50, Try.ntmps50
      go_wp2_with fail
      refine (HC.out _ HH.out).mono ?_
      rintro e w1 ⟨rfl, rfl⟩
      go_wp2_with fail
      go_ret3
      exact HR.out

/-- What TakeReq answers. -/
def ReqTaken (zs : List Int) (i : Int) (w : World) (e : Ending) (w' : World) : Prop :=
  Below w.heap.size w w' ∧ ((∃ (r : Rq) (k : Nat), tkReq zs i = some (r, (k : Int)) ∧ k ≤ zs.length ∧ e = .returned (.tuple #[.agg #[.int .i64 r.cl, .int .i64 r.tm, .int .i64 r.kd, .int .i64 r.ky, .int .i64 r.vl, .int .i64 r.sg], .int .i64 k, .bool true])) ∨
    (tkReq zs i = none ∧ e = .returned (.tuple #[.agg #[.int .i64 0, .int .i64 0, .int .i64 0, .int .i64 0, .int .i64 0, .int .i64 0], .int .i64 0, .bool false])))
/-- The frame of TakeReq at its label. -/
def ReqFrame (B X P : Value) (a : Act) : Prop :=
  ∃ u2 u3 u5 u6 u7 u8 u9 u10 u11 u12 u13 u14 u15 u16 u17 u18 u19 u20 u21 u22 u23 u24 u25 u26 u27 u28 u29 u30 u31 u32 u33 u34 u35 u36 u37 u38 u39 u40 u41 u42 u43 u44 u45 u46 u47 u48 u49 u50 u51 u52 u53 u54 u55 u56 u57 u58 u59 u60 u61 u62 u63 u64 u65 u66 u67 u68 u69 u70 u71 u72 : Value, a = { tmps := #[B, X, u2, u3, P, u5, u6, u7, u8, u9, u10, u11, u12, u13, u14, u15, u16, u17, u18, u19, u20, u21, u22, u23, u24, u25, u26, u27, u28, u29, u30, u31, u32, u33, u34, u35, u36, u37, u38, u39, u40, u41, u42, u43, u44, u45, u46, u47, u48, u49, u50, u51, u52, u53, u54, u55, u56, u57, u58, u59, u60, u61, u62, u63, u64, u65, u66, u67, u68, u69, u70, u71, u72], defers := [] }
set_option maxHeartbeats 1000000 in
set_option maxRecDepth 100000 in
theorem take_req (A : Option Addr) (cap : Nat) (zs : List Int) (B : Nat) (i : Int) (hl : zs.length ≤ 9223372036854775806) (hi : i ≤ 9223372036854775807) (hz : ∀ z ∈ zs, 0 ≤ z ∧ z ≤ 255) (w : World) (hB : B ≤ w.heap.size) (hh : Has w B A (u8s zs)) :
    Calls Try.prog 27 #[.slice A zs.length cap, .int .i64 i] w (ReqTaken zs i w) := by
  have HZ := Lib.hid hz
  have HH := Lib.hid hh
  have HA := Lib.hid (fun cs => hh.below ((Below.refl B w).alloc hB (.cells cs 31)) (Nat.le_refl _))
  have HN := Lib.hid (fun (i : Int) (hi : i ≤ 9223372036854775807) w h => take_num A cap zs B i hl hi hz w h)
  have HS := Lib.hid (fun (i : Int) (hi : i ≤ 9223372036854775807) w h => take_sgn A cap zs B i hl hi hz w h)
  clear hz hh
  go_enter Try.func27, Try.ntmps27
  go_wp2
  refine wp_scope_labels (fun l a' w' => l = 0 ∧ tkReq zs i = none ∧ ReqFrame (.slice A zs.length cap) (.int .i64 i) (.pointer (some ⟨w.heap.size, 0, none⟩)) a' ∧ ∃ c0 c1 c2 c3 c4 c5 : Int, w' = w.alloc (.cells #[.int .i64 c0, .int .i64 c1, .int .i64 c2, .int .i64 c3, .int .i64 c4, .int .i64 c5] 31)) (fun l a' w' => 0) ?_ ?_
  · go_wp2_with fail
    refine (HN.out i hi _ (HA.out _)).mono ?_
    rintro e w1 ⟨rfl, ⟨m0, k0, h1, hk0, rfl⟩ | ⟨h1, rfl⟩⟩
    · have H0 := Lib.hid h1
      clear h1
      go_wp2_with fail
      refine (HN.out k0 (by omega) _ (HA.out _)).mono ?_
      rintro e w1 ⟨rfl, ⟨m1, k1, h1, hk1, rfl⟩ | ⟨h1, rfl⟩⟩
      · have H1 := Lib.hid h1
        clear h1
        go_wp2_with fail
        refine (HN.out k1 (by omega) _ (HA.out _)).mono ?_
        rintro e w1 ⟨rfl, ⟨m2, k2, h1, hk2, rfl⟩ | ⟨h1, rfl⟩⟩
        · have H2 := Lib.hid h1
          clear h1
          go_wp2_with fail
          refine (HS.out k2 (by omega) _ (HA.out _)).mono ?_
          rintro e w1 ⟨rfl, ⟨m3, k3, h1, hk3, rfl⟩ | ⟨h1, rfl⟩⟩
          · have H3 := Lib.hid h1
            clear h1
            go_wp2_with fail
            refine (HS.out k3 (by omega) _ (HA.out _)).mono ?_
            rintro e w1 ⟨rfl, ⟨m4, k4, h1, hk4, rfl⟩ | ⟨h1, rfl⟩⟩
            · have H4 := Lib.hid h1
              clear h1
              go_wp2_with fail
              refine (HN.out k4 (by omega) _ (HA.out _)).mono ?_
              rintro e w1 ⟨rfl, ⟨m5, k5, h1, hk5, rfl⟩ | ⟨h1, rfl⟩⟩
              · have H5 := Lib.hid h1
                clear h1
                have HR : Hid (tkReq zs i = some (⟨m0, m1, m2, m3, m4, m5⟩, (k5 : Int))) := by simp [Hid, tkReq, H0.out, H1.out, H2.out, H3.out, H4.out, H5.out]
                go_wp2
                exact bodyPost_ret (v := .tuple #[.agg #[.int .i64 m0, .int .i64 m1, .int .i64 m2, .int .i64 m3, .int .i64 m4, .int .i64 m5], .int .i64 k5, .bool true]) (by simp [results, Try.results27, go_sem]) rfl ⟨(Below.refl _ w).alloc (Nat.le_refl _) _, Or.inl ⟨_, k5, HR.out, hk5, rfl⟩⟩
              · have HF := Lib.hid (show tkReq zs i = none by simp [tkReq, H0.out, H1.out, H2.out, H3.out, H4.out, h1])
                clear h1
                go_wp2
                go_step3
                go_wp2
                exact ⟨rfl, HF.out, ⟨_, _, _, _, _, _, _, _, _, _, _, _, _, _, _, _, _, _, _, _, _, _, _, _, _, _, _, _, _, _, _, _, _, _, _, _, _, _, _, _, _, _, _, _, _, _, _, _, _, _, _, _, _, _, _, _, _, _, _, _, _, _, _, _, _, _, _, _, _, _, rfl⟩, _, _, _, _, _, _, rfl⟩
            · have HF := Lib.hid (show tkReq zs i = none by simp [tkReq, H0.out, H1.out, H2.out, H3.out, h1])
              clear h1
              go_wp2
              go_step3
              go_wp2
              exact ⟨rfl, HF.out, ⟨_, _, _, _, _, _, _, _, _, _, _, _, _, _, _, _, _, _, _, _, _, _, _, _, _, _, _, _, _, _, _, _, _, _, _, _, _, _, _, _, _, _, _, _, _, _, _, _, _, _, _, _, _, _, _, _, _, _, _, _, _, _, _, _, _, _, _, _, _, _, rfl⟩, _, _, _, _, _, _, rfl⟩
          · have HF := Lib.hid (show tkReq zs i = none by simp [tkReq, H0.out, H1.out, H2.out, h1])
            clear h1
            go_wp2
            go_step3
            go_wp2
            exact ⟨rfl, HF.out, ⟨_, _, _, _, _, _, _, _, _, _, _, _, _, _, _, _, _, _, _, _, _, _, _, _, _, _, _, _, _, _, _, _, _, _, _, _, _, _, _, _, _, _, _, _, _, _, _, _, _, _, _, _, _, _, _, _, _, _, _, _, _, _, _, _, _, _, _, _, _, _, rfl⟩, _, _, _, _, _, _, rfl⟩
        · have HF := Lib.hid (show tkReq zs i = none by simp [tkReq, H0.out, H1.out, h1])
          clear h1
          go_wp2
          go_step3
          go_wp2
          exact ⟨rfl, HF.out, ⟨_, _, _, _, _, _, _, _, _, _, _, _, _, _, _, _, _, _, _, _, _, _, _, _, _, _, _, _, _, _, _, _, _, _, _, _, _, _, _, _, _, _, _, _, _, _, _, _, _, _, _, _, _, _, _, _, _, _, _, _, _, _, _, _, _, _, _, _, _, _, rfl⟩, _, _, _, _, _, _, rfl⟩
      · have HF := Lib.hid (show tkReq zs i = none by simp [tkReq, H0.out, h1])
        clear h1
        go_wp2
        go_step3
        go_wp2
        exact ⟨rfl, HF.out, ⟨_, _, _, _, _, _, _, _, _, _, _, _, _, _, _, _, _, _, _, _, _, _, _, _, _, _, _, _, _, _, _, _, _, _, _, _, _, _, _, _, _, _, _, _, _, _, _, _, _, _, _, _, _, _, _, _, _, _, _, _, _, _, _, _, _, _, _, _, _, _, rfl⟩, _, _, _, _, _, _, rfl⟩
    · have HF := Lib.hid (show tkReq zs i = none by simp [tkReq, h1])
      clear h1
      go_wp2
      go_step3
      go_wp2
      exact ⟨rfl, HF.out, ⟨_, _, _, _, _, _, _, _, _, _, _, _, _, _, _, _, _, _, _, _, _, _, _, _, _, _, _, _, _, _, _, _, _, _, _, _, _, _, _, _, _, _, _, _, _, _, _, _, _, _, _, _, _, _, _, _, _, _, _, _, _, _, _, _, _, _, _, _, _, _, rfl⟩, _, _, _, _, _, _, rfl⟩
  · rintro l a' w' ⟨rfl, hr, ⟨u2, u3, u5, u6, u7, u8, u9, u10, u11, u12, u13, u14, u15, u16, u17, u18, u19, u20, u21, u22, u23, u24, u25, u26, u27, u28, u29, u30, u31, u32, u33, u34, u35, u36, u37, u38, u39, u40, u41, u42, u43, u44, u45, u46, u47, u48, u49, u50, u51, u52, u53, u54, u55, u56, u57, u58, u59, u60, u61, u62, u63, u64, u65, u66, u67, u68, u69, u70, u71, u72, rfl⟩, c0, c1, c2, c3, c4, c5, rfl⟩
    refine ⟨_, rfl, ?_⟩
    have HR := Lib.hid hr
    clear hr
    go_wp2
    exact bodyPost_ret (v := .tuple #[.agg #[.int .i64 0, .int .i64 0, .int .i64 0, .int .i64 0, .int .i64 0, .int .i64 0], .int .i64 0, .bool false]) (by simp [results, Try.results27, go_sem]) rfl ⟨(Below.refl _ w).alloc (Nat.le_refl _) _, Or.inr ⟨HR.out, rfl⟩⟩
end Go.Proofs.Ytkkaedcgpbjbmaa
