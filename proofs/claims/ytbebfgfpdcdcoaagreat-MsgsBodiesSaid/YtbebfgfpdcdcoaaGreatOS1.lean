/- The contracts of the document's own Take, Zig and Zag, and of code.TakeSigned. -/
import Derived.Test.YtbebfgfpdcdcoaaGreatOTake
import Derived.Test.YtbebfgfpdcdcoaaGreatOS0
import Derived.Test.YtbebfgfpdcdcoaaGreatOWriter
namespace Go.Proofs.YtbebfgfpdcdcoaaGreat
open Go.RowKit

set_option maxHeartbeats 400000 in
theorem refzig_any (n : Int) (w : World) :
    Calls Tryz.prog 125 #[.int .i64 n] w fun e w' => e = .returned (.int .i64 (zigS n)) ∧ w = w' := by
  by_cases h0 : n < -549755813888
  · have e2 : zigS n = 0 := by simp only [zigS, if_neg (by omega : ¬ (-549755813888 ≤ n ∧ n < 549755813888))]
    rw [e2]
    go_enter Tryz.func125, Tryz.ntmps125
    go_wp2
    go_ret
    exact ⟨rfl, rfl⟩
  · have h1 : -549755813888 ≤ n := by omega
    by_cases h2 : n < 549755813888
    · by_cases h3 : n < 0
      · have e2 : zigS n = -2 * n - 1 := by simp [zigS, h1, h2, h3]
        rw [e2]
        go_enter Tryz.func125, Tryz.ntmps125
        go_wp2
        go_ret
        exact ⟨rfl, rfl⟩
      · have e2 : zigS n = 2 * n := by simp [zigS, h1, h2, h3]
        rw [e2]
        go_enter Tryz.func125, Tryz.ntmps125
        go_wp2
        go_ret
        exact ⟨rfl, rfl⟩
    · have e2 : zigS n = 0 := by simp only [zigS, if_neg (by omega : ¬ (-549755813888 ≤ n ∧ n < 549755813888))]
      rw [e2]
      have h2' : 549755813888 ≤ n := by omega
      go_enter Tryz.func125, Tryz.ntmps125
      go_wp2
      go_ret
      exact ⟨rfl, rfl⟩

set_option maxHeartbeats 400000 in
theorem refzag_any (n : Int) (w : World) :
    Calls Tryz.prog 151 #[.int .i64 n] w fun e w' => e = .returned (.int .i64 (zagS n)) ∧ w = w' := by
  by_cases h1 : n < 0
  · have e2 : zagS n = 0 := by simp [zagS, h1]
    rw [e2]
    go_enter Tryz.func151, Tryz.ntmps151
    go_wp2
    go_ret
    exact ⟨rfl, rfl⟩
  · have h1' : 0 ≤ n := by omega
    by_cases h2 : 1099511627776 ≤ n
    · have e2 : zagS n = 0 := by simp [zagS]; omega
      rw [e2]
      go_enter Tryz.func151, Tryz.ntmps151
      go_wp2
      go_ret
      exact ⟨rfl, rfl⟩
    · have h2' : n < 1099511627776 := by omega
      by_cases h3 : n % 2 = 1
      · have e2 : zagS n = -((n + 1) / 2) := by simp [zagS, h3]; omega
        rw [e2]
        go_enter Tryz.func151, Tryz.ntmps151
        go_wp2
        go_ret
        refine ⟨?_, rfl⟩
        show Ending.returned (.int .i64 (wrap64 (-((n + 1).tdiv 2)))) = _
        rw [Int.tdiv_eq_ediv_of_nonneg (by omega), IntWalk.wrap64_in _ ⟨by omega, by omega⟩]
      · have e2 : zagS n = n / 2 := by simp [zagS, h3]; omega
        rw [e2]
        go_enter Tryz.func151, Tryz.ntmps151
        go_wp2
        go_ret
        exact ⟨rfl, rfl⟩

set_option maxHeartbeats 400000 in
theorem takesigned_any (A : Option Addr) (cap : Nat) (zs : List Int) (B : Nat) (i : Int) (w : World) (hl : zs.length ≤ 9223372036854775806) (hi : i ≤ 9223372036854775807) (hz : ∀ z ∈ zs, 0 ≤ z ∧ z ≤ 255) (hh : Has w B A (u8s zs)) :
    Calls Tryz.prog 144 #[.slice A zs.length cap, .int .i64 i] w fun e w' => e = .returned (.tuple #[.int .i64 (zagS (takeS zs i).1), .int .i64 (takeS zs i).2.1, .bool (takeS zs i).2.2]) ∧ w = w' := by
  have HH := Lib.hid hh
  have HZ := Lib.hid hz
  clear hh hz
  go_enter Tryz.func144, Tryz.ntmps144
  go_wp2_with (first | (go_at_call 56; refine (take_any A cap zs B i _ hl hi HZ.out HH.out).mono ?_; rintro e w' ⟨rfl, rfl⟩) | (go_at_call 176; refine (zag_any _ _).mono ?_; rintro e w' ⟨rfl, rfl⟩))
  go_ret3
  exact ⟨rfl, rfl⟩

/-- The weight of group k. -/
def pw (k : Nat) : Int := 2 ^ (7 * k)
theorem pw_next (k : Nat) : 128 * pw k = pw (k + 1) := by
  unfold pw
  rw [Nat.mul_add, Int.pow_add]
  omega
theorem pw_bd {k : Nat} (hk : k ≤ 6) : 1 ≤ pw k ∧ pw k ≤ 4398046511104 := by
  rcases (by omega : k = 0 ∨ k = 1 ∨ k = 2 ∨ k = 3 ∨ k = 4 ∨ k = 5 ∨ k = 6) with rfl | rfl | rfl | rfl | rfl | rfl | rfl <;> decide

theorem pw_mul {z : Int} {k : Nat} (h0 : 0 ≤ z) (h1 : z ≤ 127) (hk : k < 6) : 0 ≤ z * pw k ∧ z * pw k ≤ 69818988363776 :=
  shl_bd h0 h1 (by omega)
theorem pw_step {z acc : Int} {k : Nat} (ha : acc < pw k) (h1 : z ≤ 127) : acc + z * pw k < pw (k + 1) := by
  have h := shl_next (z := z) (k := 7 * k) ha h1
  exact h

set_option maxHeartbeats 1000000 in
theorem reftake_any (A : Option Addr) (cap : Nat) (zs : List Int) (B : Nat) (i : Int) (w : World) (hl : zs.length ≤ 9223372036854775806) (hi : i ≤ 9223372036854775807) (hz : ∀ z ∈ zs, 0 ≤ z ∧ z ≤ 255) (hh : Has w B A (u8s zs)) :
    Calls Tryz.prog 112 #[.slice A zs.length cap, .int .i64 i] w fun e w' => e = .returned (.tuple #[.int .i64 (takeS zs i).1, .int .i64 (takeS zs i).2.1, .bool (takeS zs i).2.2]) ∧ w = w' := by
  have HH := Lib.hid hh
  have HZ := Lib.hid hz
  clear hh hz
  by_cases h0 : i < 0
  · have HF := Lib.hid (show takeS zs i = (0, 0, false) by unfold takeS; rw [if_pos h0])
    go_enter Tryz.func112, Tryz.ntmps112
    go_wp2
    go_ret3
    rw [HF.out]
    exact ⟨rfl, rfl⟩
  · obtain ⟨m0, rfl⟩ := Int.eq_ofNat_of_zero_le (show 0 ≤ i by omega)
    have HR := Lib.hid (show takeS zs m0 = res 0 0 m0 (zs.drop m0) by unfold takeS; rw [if_neg (by omega)]; rfl)
    clear h0
    go_enter Tryz.func112, Tryz.ntmps112
    go_wp2
    go_loop [1, 7, 8, 9] (fun x n o kk => ∃ (k m : Nat) (acc : Int), x = .int .i64 m ∧ n = .int .i64 acc ∧ o = .int .i64 (pw k) ∧ kk = .int .i64 k ∧ k ≤ 6 ∧ m ≤ 9223372036854775807 ∧ 0 ≤ acc ∧ acc < pw k ∧ Hid (takeS zs m0 = res (7 * k) acc m (zs.drop m))) (fun _ _ _ kk => 6 - (intOf kk).toNat)
    case atStart => exact ⟨0, m0, 0, rfl, rfl, rfl, rfl, by omega, by omega, by omega, by decide, HR.out⟩
    case round =>
      obtain ⟨k, m, acc, rfl, rfl, rfl, rfl, hk, hm, ha0, ha1, HF⟩ := hrel
      have hp := pw_bd hk
      obtain ⟨hp0, hp1⟩ := hp
      by_cases hk6 : k < 6
      · by_cases h1 : m < zs.length
        · obtain ⟨ad, z, rfl, hb, hc, hd, hmem⟩ := HH.out.byte h1
          have hz0 := (HZ.out z hmem).1
          have hz1 := (HZ.out z hmem).2
          have HD := Lib.hid hd
          clear hd
          by_cases h3 : z < 128
          · have hzm : z % 128 = z := by omega
            have hs := pw_mul (z := z) (k := k) hz0 (by omega) (by omega)
            obtain ⟨hs0, hs1⟩ := hs
            have ha2 : acc ≤ 4398046511104 := by omega
            have hf := HF.out
            rw [HD.out, res_last (by omega) h3] at hf
            have HG := Lib.hid (show takeS zs m0 = if (z = 0 ∧ 0 < 7 * k) ∨ 1099511627775 < acc + z * pw k then (0, 0, false) else (acc + z * pw k, ((m + 1 : Nat) : Int), true) from hf)
            clear hf
            by_cases c1 : 1099511627776 ≤ acc + z * pw k
            · have HT := Lib.hid (show takeS zs m0 = (0, 0, false) by rw [HG.out, if_pos (Or.inr (by omega))])
              go_wp2
              all_goals
                go_ret3
                rw [HT.out]
                exact ⟨rfl, rfl⟩
            · have c1' : acc + z * pw k < 1099511627776 := by omega
              by_cases c2 : z = 0
              · subst c2
                by_cases c3 : 0 < k
                · have HT := Lib.hid (show takeS zs m0 = (0, 0, false) by rw [HG.out, if_pos (Or.inl ⟨rfl, by omega⟩)])
                  go_wp2
                  all_goals
                    go_ret3
                    rw [HT.out]
                    exact ⟨rfl, rfl⟩
                · have hk0 : k = 0 := by omega
                  have c4 : acc < 1099511627776 := by omega
                  have HT := Lib.hid (show takeS zs m0 = (acc, ((m + 1 : Nat) : Int), true) by rw [HG.out, if_neg (by omega)]; simp)
                  clear hk0
                  go_wp2
                  all_goals
                    go_ret3
                    rw [HT.out]
                    exact ⟨by simp, rfl⟩
              · have HT := Lib.hid (show takeS zs m0 = (acc + z * pw k, ((m + 1 : Nat) : Int), true) by rw [HG.out, if_neg (by omega)])
                go_wp2
                all_goals
                  go_ret3
                  rw [HT.out]
                  exact ⟨by simp, rfl⟩
          · have hzm : z % 128 = z - 128 := by omega
            have hs := pw_mul (z := z - 128) (k := k) (by omega) (by omega) (by omega)
            obtain ⟨hs0, hs1⟩ := hs
            have ha2 : acc ≤ 4398046511104 := by omega
            have hf := HF.out
            rw [HD.out, res_more (by omega) (by omega)] at hf
            have HG := Lib.hid (show takeS zs m0 = res (7 * (k + 1)) (acc + (z - 128) * pw k) (m + 1) (zs.drop (m + 1)) from hf)
            have HX := Lib.hid (pw_step (z := z - 128) ha1 (by omega))
            have HW := Lib.hid (pw_next k)
            clear hf
            go_wp2
            go_round
            case rel => exact ⟨k + 1, m + 1, _, rfl, rfl, by rw [HW.out], rfl, by omega, by omega, by omega, HX.out, HG.out⟩
            case measure => simp [intOf]; omega
        · have hf := HF.out
          rw [List.drop_eq_nil_of_le (by omega), res_nil] at hf
          have HG := Lib.hid hf
          clear hf
          go_wp2
          go_ret3
          rw [HG.out]
          exact ⟨rfl, rfl⟩
      · have hf := HF.out
        rw [res_far _ _ _ (by omega)] at hf
        have HG := Lib.hid hf
        clear hf
        go_wp2
        all_goals
          go_ret3
          rw [HG.out]
          exact ⟨rfl, rfl⟩
end Go.Proofs.YtbebfgfpdcdcoaaGreat
/- The contracts of the writer's lists. -/
namespace Go.Proofs.YtbebfgfpdcdcoaaGreat
open Go.RowKit

/-- What holds at the head of putList's loop: so many things have been written. -/
def PutRel {α : Type} (f : α → List Tok) (l : List α) (w : World) (B g : Nat) (bs : List Int) (x : Value) (wr : World) : Prop :=
  ∃ (k : Nat) (ns : List Nat), x = .int .i64 k ∧ k ≤ l.length ∧ codes (.len l.length :: (l.take k).flatMap f) = some ns ∧ Wr wr B g (bs ++ flat ns) ∧ Kept B g 5 w wr

theorem len_num {n : Nat} (h : n ≤ 256) : codes ([(n : Int)].map .num) = some [n] ∧ codes [.len n] = some [n] :=
  ⟨codes_one (code_num.2 ⟨rfl, by omega⟩), codes_one (code_len.2 ⟨rfl, h⟩)⟩
theorem PutRel.start {α : Type} {f : α → List Tok} {l : List α} {w w1 : World} {B g : Nat} {bs : List Int} (hn : l.length ≤ 256) {e : Ending} (h : WrPost w B g bs ([(l.length : Int)].map .num) e w1) :
    e = .returned (.bool true) ∧ PutRel f l w B g bs (.int .i64 0) w1 := by
  obtain ⟨hk, ⟨ns, h1, h2, h3⟩ | ⟨h1, _⟩⟩ := h
  · rw [(len_num hn).1] at h1
    injection h1 with h1
    subst h1
    exact ⟨h2, 0, _, rfl, Nat.zero_le _, by simpa using (len_num hn).2, h3, hk⟩
  · rw [(len_num hn).1] at h1; cases h1
theorem put_more {α : Type} {f : α → List Tok} {l : List α} {k : Nat} (hk : k < l.length) : (Tok.len l.length :: (l.take (k + 1)).flatMap f) = (Tok.len l.length :: (l.take k).flatMap f) ++ f l[k] := by
  rw [List.take_succ_eq_append_getElem hk, List.flatMap_append]
  simp
theorem put_split {α : Type} {f : α → List Tok} {l : List α} {k : Nat} (hk : k < l.length) : listToks f l = (Tok.len l.length :: (l.take k).flatMap f) ++ (f l[k] ++ (l.drop (k + 1)).flatMap f) := by
  unfold listToks
  conv => lhs; rw [← List.take_append_drop (k + 1) l, List.flatMap_append, List.take_succ_eq_append_getElem hk, List.flatMap_append]
  simp

theorem PutRel.next {α : Type} {f : α → List Tok} {l : List α} {w wr w2 : World} {B g : Nat} {bs : List Int} {k : Nat} {ns : List Nat} {x : α} {e : Ending} (hlt : k < l.length) (hx : l[k] = x)
    (hc : codes (.len l.length :: (l.take k).flatMap f) = some ns) (hk : Kept B g 5 w wr) (hp : WrPost wr B g (bs ++ flat ns) (f x) e w2) :
    (e = .returned (.bool true) ∧ PutRel f l w B g bs (.int .i64 ((k + 1 : Nat) : Int)) w2) ∨ (e = .returned (.bool false) ∧ WrPost w B g bs (listToks f l) (.returned (.bool false)) w2) := by
  subst hx
  obtain ⟨hk2, ⟨na, h1, h2, h3⟩ | ⟨h1, h2⟩⟩ := hp
  · refine Or.inl ⟨h2, k + 1, ns ++ na, rfl, hlt, ?_, by rw [flat_app, ← List.append_assoc]; exact h3, hk.trans hk2⟩
    rw [put_more hlt]
    exact codes_app_some hc h1
  · refine Or.inr ⟨h2, WrPost.bad ?_ (hk.trans hk2)⟩
    rw [put_split hlt]
    exact codes_app_none2 (codes_app_none1 h1)
theorem put_bound {α : Type} {f : α → List Tok} {l : List α} {bs : List Int} {k : Nat} {ns : List Nat} {x : α} {n : Nat} (hlt : k < l.length) (hx : l[k] = x)
    (hc : codes (.len l.length :: (l.take k).flatMap f) = some ns) (hs : bs.length + 6 * (listToks f l).length ≤ n) : (bs ++ flat ns).length + 6 * (f x).length ≤ n := by
  subst hx
  refine wr_len hc ?_
  rw [put_split hlt] at hs
  simp only [List.length_append] at hs ⊢
  omega
theorem PutRel.done {α : Type} {f : α → List Tok} {l : List α} {w wr : World} {B g : Nat} {bs : List Int} {k : Nat} {ns : List Nat} (hk : l.length ≤ k)
    (hc : codes (.len l.length :: (l.take k).flatMap f) = some ns) (hv : Wr wr B g (bs ++ flat ns)) (hkp : Kept B g 5 w wr) : WrPost w B g bs (listToks f l) (.returned (.bool true)) wr := by
  rw [List.take_of_length_le hk] at hc
  exact WrPost.good hc hv hkp
theorem put_long {α : Type} {f : α → List Tok} {l : List α} {w : World} {B g : Nat} {bs : List Int} (hl : 256 < l.length) : WrPost w B g bs (listToks f l) (.returned (.bool false)) w :=
  WrPost.bad (codes_none_head (by simp only [Tok.code]; rw [if_neg (by omega)])) (Kept.refl _ _ _ _)

set_option maxHeartbeats 1000000 in
theorem put_reqs (l : List Rq) (A : Option Addr) (c B g : Nat) (bs : List Int) (w : World) (hw : Wr w B g bs) (hh : Has w B A (reqCells l))
    (hsz : bs.length + 6 * (listToks Rq.toks l).length ≤ 70368744177664) (hB : B ≤ w.heap.size) :
    Calls Tryz.prog 169 #[.pointer (some ⟨g, 0, none⟩), .slice A l.length c, .func (.func 170) #[] #[]] w (WrPost w B g bs (listToks Rq.toks l)) := by
  have HW := Lib.hid hw
  have HH := Lib.hid hh
  have HS := Lib.hid hsz
  have hs1 : bs.length + 6 * 1 ≤ 70368744177664 := by simp [listToks] at hsz; omega
  clear hw hh hsz
  by_cases hlen : l.length ≤ 256
  · have HN := Lib.hid (show [(l.length : Int)].length = 1 from rfl)
    have HBk := Lib.hid (Blk.new w 3 #[.int .i64 (l.length : Int)])
    go_enter Tryz.func169, Tryz.ntmps169
    go_wp2_with fail
    refine (wr_numbers_is (B := B) HN.out hs1 _ (HW.out.alloc _) HBk.out (by simp; omega)).mono ?_
    rintro e w1 hp
    obtain ⟨rfl, hr⟩ := PutRel.start (f := Rq.toks) hlen (hp.from ((Kept.refl B g 5 w).alloc (.cells #[.int .i64 (l.length : Int)] 3)))
    have HR := Lib.hid hr
    clear hp hr HBk
    go_wp2_with fail
    go_loopw [22] (fun x wr => PutRel Rq.toks l w B g bs x wr) (fun x _ => l.length - (intOf x).toNat)
    case atStart => exact HR.out
    case round =>
      obtain ⟨k, ns, rfl, hk, hcd, hwr, hkp⟩ := hrel
      have hbs := hkp.size
      have HC := Lib.hid hcd
      have HV := Lib.hid hwr
      have HK := Lib.hid hkp
      clear hcd hwr hkp
      by_cases hlt : k < l.length
      · obtain ⟨ad, rfl, hab, h0, h1, h2, h3, h4, h5⟩ := (HK.out.has HW.out.1 HH.out).req hlt
        obtain ⟨r, hr⟩ : ∃ r, l[k] = r := ⟨_, rfl⟩
        rw [hr] at h0 h1 h2 h3 h4 h5
        have HR := Lib.hid hr
        clear hr
        have HE := Lib.hid (put_bound hlt HR.out HC.out HS.out)
        go_wp2_with fail
        refine (wr_req r B g _ _ (HV.out.alloc _) HE.out (by simp; omega)).mono ?_
        rintro e w2 hp
        have hn := PutRel.next hlt HR.out HC.out HK.out (hp.from ((Kept.refl B g 5 wr).alloc (.cells #[.int .i64 r.cl, .int .i64 r.tm, .int .i64 r.kd, .int .i64 r.ky, .int .i64 r.vl, .int .i64 r.sg] 69)))
        clear hp h0 h1 h2 h3 h4 h5
        rcases hn with ⟨rfl, hn⟩ | ⟨rfl, hn⟩
        · have HN2 := Lib.hid hn
          clear hn
          go_wp2
          go_roundw
          case rel => exact HN2.out
          case measure => simp [intOf]; omega
        · have HN2 := Lib.hid hn
          clear hn
          go_wp2
          go_ret
          exact HN2.out
      · have HD := Lib.hid (PutRel.done (by omega) HC.out HV.out HK.out)
        go_wp2
        go_ret
        exact HD.out
  · have HD := Lib.hid (put_long (f := Rq.toks) (l := l) (w := w) (B := B) (g := g) (bs := bs) (by omega))
    have hlen' : 256 < l.length := by omega
    go_enter Tryz.func169, Tryz.ntmps169
    go_wp2
    go_ret
    exact HD.out
set_option maxHeartbeats 1000000 in
theorem put_votes (l : List Vt) (A : Option Addr) (c B g : Nat) (bs : List Int) (w : World) (hw : Wr w B g bs) (hh : Has w B A (voteCells l))
    (hsz : bs.length + 6 * (listToks Vt.toks l).length ≤ 70368744177664) (hB : B ≤ w.heap.size) :
    Calls Tryz.prog 171 #[.pointer (some ⟨g, 0, none⟩), .slice A l.length c, .func (.func 172) #[] #[]] w (WrPost w B g bs (listToks Vt.toks l)) := by
  have HW := Lib.hid hw
  have HH := Lib.hid hh
  have HS := Lib.hid hsz
  have hs1 : bs.length + 6 * 1 ≤ 70368744177664 := by simp [listToks] at hsz; omega
  clear hw hh hsz
  by_cases hlen : l.length ≤ 256
  · have HN := Lib.hid (show [(l.length : Int)].length = 1 from rfl)
    have HBk := Lib.hid (Blk.new w 3 #[.int .i64 (l.length : Int)])
    go_enter Tryz.func171, Tryz.ntmps171
    go_wp2_with fail
    refine (wr_numbers_is (B := B) HN.out hs1 _ (HW.out.alloc _) HBk.out (by simp; omega)).mono ?_
    rintro e w1 hp
    obtain ⟨rfl, hr⟩ := PutRel.start (f := Vt.toks) hlen (hp.from ((Kept.refl B g 5 w).alloc (.cells #[.int .i64 (l.length : Int)] 3)))
    have HR := Lib.hid hr
    clear hp hr HBk
    go_wp2_with fail
    go_loopw [22] (fun x wr => PutRel Vt.toks l w B g bs x wr) (fun x _ => l.length - (intOf x).toNat)
    case atStart => exact HR.out
    case round =>
      obtain ⟨k, ns, rfl, hk, hcd, hwr, hkp⟩ := hrel
      have hbs := hkp.size
      have HC := Lib.hid hcd
      have HV := Lib.hid hwr
      have HK := Lib.hid hkp
      clear hcd hwr hkp
      by_cases hlt : k < l.length
      · obtain ⟨ad, rfl, hab, h0, h1⟩ := (HK.out.has HW.out.1 HH.out).vote hlt
        obtain ⟨r, hr⟩ : ∃ r, l[k] = r := ⟨_, rfl⟩
        rw [hr] at h0 h1
        have HR := Lib.hid hr
        clear hr
        have HE := Lib.hid (put_bound hlt HR.out HC.out HS.out)
        go_wp2_with fail
        refine (wr_vote r B g _ _ (HV.out.alloc _) HE.out (by simp; omega)).mono ?_
        rintro e w2 hp
        have hn := PutRel.next hlt HR.out HC.out HK.out (hp.from ((Kept.refl B g 5 wr).alloc (.cells #[.int .i64 r.nd, .int .i64 r.sg] 65)))
        clear hp h0 h1
        rcases hn with ⟨rfl, hn⟩ | ⟨rfl, hn⟩
        · have HN2 := Lib.hid hn
          clear hn
          go_wp2
          go_roundw
          case rel => exact HN2.out
          case measure => simp [intOf]; omega
        · have HN2 := Lib.hid hn
          clear hn
          go_wp2
          go_ret
          exact HN2.out
      · have HD := Lib.hid (PutRel.done (by omega) HC.out HV.out HK.out)
        go_wp2
        go_ret
        exact HD.out
  · have HD := Lib.hid (put_long (f := Vt.toks) (l := l) (w := w) (B := B) (g := g) (bs := bs) (by omega))
    have hlen' : 256 < l.length := by omega
    go_enter Tryz.func171, Tryz.ntmps171
    go_wp2
    go_ret
    exact HD.out

set_option maxHeartbeats 400000 in
theorem wr_batch (l : List Rq) (A : Option Addr) (c B g : Nat) (bs : List Int) (w : World) (hw : Wr w B g bs) (hh : Has w B A (reqCells l))
    (hsz : bs.length + 6 * (listToks Rq.toks l).length ≤ 70368744177664) (hB : B ≤ w.heap.size) :
    Calls Tryz.prog 139 #[.pointer (some ⟨g, 0, none⟩), .slice A l.length c] w (WrPost w B g bs (listToks Rq.toks l)) := by
  have HP := Lib.hid (put_reqs l A c B g bs w hw hh hsz hB)
  clear hw hh hsz
  go_enter Tryz.func139, Tryz.ntmps139
  go_wp2_with fail
  refine (HP.out).mono ?_
  rintro e w' hp
  rcases hp with ⟨hk, ⟨ns, hc, rfl, hw'⟩ | ⟨hc, rfl⟩⟩
  · have HQ := Lib.hid (WrPost.good hc hw' hk)
    clear hc hw' hk
    go_wp2
    go_ret
    exact HQ.out
  · have HQ := Lib.hid (WrPost.bad (bs := bs) hc hk)
    clear hc hk
    go_wp2
    go_ret
    exact HQ.out
set_option maxHeartbeats 400000 in
theorem wr_votes (l : List Vt) (A : Option Addr) (c B g : Nat) (bs : List Int) (w : World) (hw : Wr w B g bs) (hh : Has w B A (voteCells l))
    (hsz : bs.length + 6 * (listToks Vt.toks l).length ≤ 70368744177664) (hB : B ≤ w.heap.size) :
    Calls Tryz.prog 140 #[.pointer (some ⟨g, 0, none⟩), .slice A l.length c] w (WrPost w B g bs (listToks Vt.toks l)) := by
  have HP := Lib.hid (put_votes l A c B g bs w hw hh hsz hB)
  clear hw hh hsz
  go_enter Tryz.func140, Tryz.ntmps140
  go_wp2_with fail
  refine (HP.out).mono ?_
  rintro e w' hp
  rcases hp with ⟨hk, ⟨ns, hc, rfl, hw'⟩ | ⟨hc, rfl⟩⟩
  · have HQ := Lib.hid (WrPost.good hc hw' hk)
    clear hc hw' hk
    go_wp2
    go_ret
    exact HQ.out
  · have HQ := Lib.hid (WrPost.bad (bs := bs) hc hk)
    clear hc hk
    go_wp2
    go_ret
    exact HQ.out
end Go.Proofs.YtbebfgfpdcdcoaaGreat
/- The contracts of package pack's takers of a length and of a request. -/
namespace Go.Proofs.YtbebfgfpdcdcoaaGreat
open Go.RowKit

/-- What a taker of a number answers. -/
def NumTaken (f : Tkr Int) (zs : List Int) (i : Int) (w : World) (e : Ending) (w' : World) : Prop :=
  w = w' ∧ ((∃ (m : Int) (k : Nat), f i = some (m, (k : Int)) ∧ k ≤ zs.length ∧ e = .returned (.tuple #[.int .i64 m, .int .i64 k, .bool true])) ∨
    (f i = none ∧ e = .returned (.tuple #[.int .i64 0, .int .i64 0, .bool false])))
theorem take_num (A : Option Addr) (cap : Nat) (zs : List Int) (B : Nat) (i : Int) (hl : zs.length ≤ 9223372036854775806) (hi : i ≤ 9223372036854775807) (hz : ∀ z ∈ zs, 0 ≤ z ∧ z ≤ 255) (w : World) (hh : Has w B A (u8s zs)) :
    Calls Tryz.prog 56 #[.slice A zs.length cap, .int .i64 i] w (NumTaken (tkNum zs) zs i w) :=
  (take_any A cap zs B i w hl hi hz hh).mono fun e w' ⟨he, hw⟩ => by
    refine ⟨hw, ?_⟩
    rcases tk_cases zs i hz with ⟨h1, h2⟩ | ⟨m, p, q, _, h1, h2, _, h3, _⟩
    · rw [h2] at he
      exact Or.inr ⟨by simp [tkNum, h1], he⟩
    · rw [h2] at he
      exact Or.inl ⟨m, q, by simp [tkNum, h1], h3, he⟩
theorem take_sgn (A : Option Addr) (cap : Nat) (zs : List Int) (B : Nat) (i : Int) (hl : zs.length ≤ 9223372036854775806) (hi : i ≤ 9223372036854775807) (hz : ∀ z ∈ zs, 0 ≤ z ∧ z ≤ 255) (w : World) (hh : Has w B A (u8s zs)) :
    Calls Tryz.prog 144 #[.slice A zs.length cap, .int .i64 i] w (NumTaken (tkSgn zs) zs i w) :=
  (takesigned_any A cap zs B i w hl hi hz hh).mono fun e w' ⟨he, hw⟩ => by
    refine ⟨hw, ?_⟩
    rcases tk_cases zs i hz with ⟨h1, h2⟩ | ⟨m, p, q, _, h1, h2, _, h3, _⟩
    · rw [h2] at he
      exact Or.inr ⟨by simp [tkSgn, h1], he⟩
    · rw [h2] at he
      exact Or.inl ⟨zagS m, q, by simp [tkSgn, h1], h3, he⟩

theorem take_eq {A : Option Addr} {cap : Nat} {zs : List Int} {B : Nat} {i n q : Int} {b : Bool} (h : takeS zs i = (n, q, b)) (hl : zs.length ≤ 9223372036854775806) (hi : i ≤ 9223372036854775807) (hz : ∀ z ∈ zs, 0 ≤ z ∧ z ≤ 255) (w : World) (hh : Has w B A (u8s zs)) :
    Calls Tryz.prog 56 #[.slice A zs.length cap, .int .i64 i] w fun e w' => e = .returned (.tuple #[.int .i64 n, .int .i64 q, .bool b]) ∧ w = w' := by
  have h1 := take_any A cap zs B i w hl hi hz hh
  rw [h] at h1
  exact h1
/-- What takeLength answers. -/
def LenTaken (zs : List Int) (i : Int) (w : World) (e : Ending) (w' : World) : Prop :=
  w = w' ∧ ((∃ (n k : Nat), tkLen zs i = some (n, (k : Int)) ∧ n ≤ 256 ∧ k ≤ zs.length ∧ e = .returned (.tuple #[.int .i64 n, .int .i64 k, .bool true])) ∨
    (tkLen zs i = none ∧ e = .returned (.tuple #[.int .i64 0, .int .i64 0, .bool false])))
set_option maxHeartbeats 400000 in
set_option maxRecDepth 100000 in
theorem take_length (A : Option Addr) (cap : Nat) (zs : List Int) (B : Nat) (i : Int) (hl : zs.length ≤ 9223372036854775806) (hi : i ≤ 9223372036854775807) (hz : ∀ z ∈ zs, 0 ≤ z ∧ z ≤ 255) (w : World) (hh : Has w B A (u8s zs)) :
    Calls Tryz.prog 145 #[.slice A zs.length cap, .int .i64 i] w (LenTaken zs i w) := by
  have HH := Lib.hid hh
  rcases tk_cases zs i hz with ⟨h1, h2⟩ | ⟨m, p, q, rfl, h1, h2, _, h3, h4, _⟩
  · have HC := Lib.hid (fun w h => take_eq (A := A) (B := B) (cap := cap) h2 hl hi hz w h)
    have HR : Hid (LenTaken zs i w (.returned (.tuple #[.int .i64 0, .int .i64 0, .bool false])) w) := ⟨rfl, Or.inr ⟨by simp [tkLen, h1], rfl⟩⟩
    clear h1 h2 hh hz
    go_enter Tryz.func145, Tryz.ntmps145
    go_wp2_with fail
    refine (HC.out _ HH.out).mono ?_
    rintro e w1 ⟨rfl, rfl⟩
    go_wp2_with fail
    go_ret3
    exact HR.out
  · have HC := Lib.hid (fun w h => take_eq (A := A) (B := B) (cap := cap) h2 hl hi hz w h)
    by_cases hm : m ≤ 256
    · have HR : Hid (LenTaken zs p w (.returned (.tuple #[.int .i64 m, .int .i64 q, .bool true])) w) := ⟨rfl, Or.inl ⟨m, q, by simp [tkLen, h1, hm], hm, h3, rfl⟩⟩
      clear h1 h2 hh hz h4
      go_enter Tryz.func145, Tryz.ntmps145
      go_wp2_with fail
      refine (HC.out _ HH.out).mono ?_
      rintro e w1 ⟨rfl, rfl⟩
      go_wp2_with fail
      go_ret3
      exact HR.out
    · have HR : Hid (LenTaken zs p w (.returned (.tuple #[.int .i64 0, .int .i64 0, .bool false])) w) := ⟨rfl, Or.inr ⟨by simp [tkLen, h1, hm], rfl⟩⟩
      have hm2 : 256 < m := by omega
      clear h1 h2 hh hz h4 hm
      go_enter Tryz.func145, Tryz.ntmps145
      go_wp2_with fail
      refine (HC.out _ HH.out).mono ?_
      rintro e w1 ⟨rfl, rfl⟩
      go_wp2_with fail
      go_ret3
      exact HR.out

/-- What TakeReq answers. -/
def ReqTaken (zs : List Int) (i : Int) (w : World) (e : Ending) (w' : World) : Prop :=
  Below w.heap.size w w' ∧ ((∃ (r : Rq) (k : Nat), tkReq zs i = some (r, (k : Int)) ∧ k ≤ zs.length ∧ e = .returned (.tuple #[.agg #[.int .i64 r.cl, .int .i64 r.tm, .int .i64 r.kd, .int .i64 r.ky, .int .i64 r.vl, .int .i64 r.sg], .int .i64 k, .bool true])) ∨
    (tkReq zs i = none ∧ e = .returned (.tuple #[.agg #[.int .i64 0, .int .i64 0, .int .i64 0, .int .i64 0, .int .i64 0, .int .i64 0], .int .i64 0, .bool false])))
/-- The frame of TakeReq at its label. -/
def ReqFrame (B X P : Value) (a : Act) : Prop :=
  ∃ u2 u3 u5 u6 u7 u8 u9 u10 u11 u12 u13 u14 u15 u16 u17 u18 u19 u20 u21 u22 u23 u24 u25 u26 u27 u28 u29 u30 u31 u32 u33 u34 u35 u36 u37 u38 u39 u40 u41 u42 u43 u44 u45 u46 u47 u48 u49 u50 u51 u52 u53 u54 u55 u56 u57 u58 u59 u60 u61 u62 u63 u64 u65 u66 u67 u68 u69 u70 u71 u72 : Value, a = { tmps := #[B, X, u2, u3, P, u5, u6, u7, u8, u9, u10, u11, u12, u13, u14, u15, u16, u17, u18, u19, u20, u21, u22, u23, u24, u25, u26, u27, u28, u29, u30, u31, u32, u33, u34, u35, u36, u37, u38, u39, u40, u41, u42, u43, u44, u45, u46, u47, u48, u49, u50, u51, u52, u53, u54, u55, u56, u57, u58, u59, u60, u61, u62, u63, u64, u65, u66, u67, u68, u69, u70, u71, u72], defers := [] }
set_option maxHeartbeats 1000000 in
set_option maxRecDepth 100000 in
theorem take_req (A : Option Addr) (cap : Nat) (zs : List Int) (B : Nat) (i : Int) (hl : zs.length ≤ 9223372036854775806) (hi : i ≤ 9223372036854775807) (hz : ∀ z ∈ zs, 0 ≤ z ∧ z ≤ 255) (w : World) (hB : B ≤ w.heap.size) (hh : Has w B A (u8s zs)) :
    Calls Tryz.prog 146 #[.slice A zs.length cap, .int .i64 i] w (ReqTaken zs i w) := by
  have HZ := Lib.hid hz
  have HH := Lib.hid hh
  have HA := Lib.hid (fun cs => hh.below ((Below.refl B w).alloc hB (.cells cs 69)) (Nat.le_refl _))
  have HN := Lib.hid (fun (i : Int) (hi : i ≤ 9223372036854775807) w h => take_num A cap zs B i hl hi hz w h)
  have HS := Lib.hid (fun (i : Int) (hi : i ≤ 9223372036854775807) w h => take_sgn A cap zs B i hl hi hz w h)
  clear hz hh
  go_enter Tryz.func146, Tryz.ntmps146
  go_wp2
  refine wp_scope_labels (fun l a' w' => l = 0 ∧ tkReq zs i = none ∧ ReqFrame (.slice A zs.length cap) (.int .i64 i) (.pointer (some ⟨w.heap.size, 0, none⟩)) a' ∧ ∃ c0 c1 c2 c3 c4 c5 : Int, w' = w.alloc (.cells #[.int .i64 c0, .int .i64 c1, .int .i64 c2, .int .i64 c3, .int .i64 c4, .int .i64 c5] 69)) (fun l a' w' => 0) ?_ ?_
  · go_wp2_with fail
    refine (HN.out i hi _ (HA.out _)).mono ?_
    rintro e w1 ⟨rfl, ⟨m0, k0, h1, hk0, rfl⟩ | ⟨h1, rfl⟩⟩
    · have H0 := Lib.hid h1
      clear h1
      go_wp2_with fail
      refine (HN.out k0 (by omega) _ (HA.out _)).mono ?_
      rintro e w1 ⟨rfl, ⟨m1, k1, h1, hk1, rfl⟩ | ⟨h1, rfl⟩⟩
      · have H1 := Lib.hid h1
        clear h1
        go_wp2_with fail
        refine (HN.out k1 (by omega) _ (HA.out _)).mono ?_
        rintro e w1 ⟨rfl, ⟨m2, k2, h1, hk2, rfl⟩ | ⟨h1, rfl⟩⟩
        · have H2 := Lib.hid h1
          clear h1
          go_wp2_with fail
          refine (HS.out k2 (by omega) _ (HA.out _)).mono ?_
          rintro e w1 ⟨rfl, ⟨m3, k3, h1, hk3, rfl⟩ | ⟨h1, rfl⟩⟩
          · have H3 := Lib.hid h1
            clear h1
            go_wp2_with fail
            refine (HS.out k3 (by omega) _ (HA.out _)).mono ?_
            rintro e w1 ⟨rfl, ⟨m4, k4, h1, hk4, rfl⟩ | ⟨h1, rfl⟩⟩
            · have H4 := Lib.hid h1
              clear h1
              go_wp2_with fail
              refine (HN.out k4 (by omega) _ (HA.out _)).mono ?_
              rintro e w1 ⟨rfl, ⟨m5, k5, h1, hk5, rfl⟩ | ⟨h1, rfl⟩⟩
              · have H5 := Lib.hid h1
                clear h1
                have HR : Hid (tkReq zs i = some (⟨m0, m1, m2, m3, m4, m5⟩, (k5 : Int))) := by simp [Hid, tkReq, H0.out, H1.out, H2.out, H3.out, H4.out, H5.out]
                go_wp2
                exact bodyPost_ret (v := .tuple #[.agg #[.int .i64 m0, .int .i64 m1, .int .i64 m2, .int .i64 m3, .int .i64 m4, .int .i64 m5], .int .i64 k5, .bool true]) (by simp [results, Tryz.results146, go_sem]) rfl ⟨(Below.refl _ w).alloc (Nat.le_refl _) _, Or.inl ⟨_, k5, HR.out, hk5, rfl⟩⟩
              · have HF := Lib.hid (show tkReq zs i = none by simp [tkReq, H0.out, H1.out, H2.out, H3.out, H4.out, h1])
                clear h1
                go_wp2
                go_step3
                go_wp2
                exact ⟨rfl, HF.out, ⟨_, _, _, _, _, _, _, _, _, _, _, _, _, _, _, _, _, _, _, _, _, _, _, _, _, _, _, _, _, _, _, _, _, _, _, _, _, _, _, _, _, _, _, _, _, _, _, _, _, _, _, _, _, _, _, _, _, _, _, _, _, _, _, _, _, _, _, _, _, _, rfl⟩, _, _, _, _, _, _, rfl⟩
            · have HF := Lib.hid (show tkReq zs i = none by simp [tkReq, H0.out, H1.out, H2.out, H3.out, h1])
              clear h1
              go_wp2
              go_step3
              go_wp2
              exact ⟨rfl, HF.out, ⟨_, _, _, _, _, _, _, _, _, _, _, _, _, _, _, _, _, _, _, _, _, _, _, _, _, _, _, _, _, _, _, _, _, _, _, _, _, _, _, _, _, _, _, _, _, _, _, _, _, _, _, _, _, _, _, _, _, _, _, _, _, _, _, _, _, _, _, _, _, _, rfl⟩, _, _, _, _, _, _, rfl⟩
          · have HF := Lib.hid (show tkReq zs i = none by simp [tkReq, H0.out, H1.out, H2.out, h1])
            clear h1
            go_wp2
            go_step3
            go_wp2
            exact ⟨rfl, HF.out, ⟨_, _, _, _, _, _, _, _, _, _, _, _, _, _, _, _, _, _, _, _, _, _, _, _, _, _, _, _, _, _, _, _, _, _, _, _, _, _, _, _, _, _, _, _, _, _, _, _, _, _, _, _, _, _, _, _, _, _, _, _, _, _, _, _, _, _, _, _, _, _, rfl⟩, _, _, _, _, _, _, rfl⟩
        · have HF := Lib.hid (show tkReq zs i = none by simp [tkReq, H0.out, H1.out, h1])
          clear h1
          go_wp2
          go_step3
          go_wp2
          exact ⟨rfl, HF.out, ⟨_, _, _, _, _, _, _, _, _, _, _, _, _, _, _, _, _, _, _, _, _, _, _, _, _, _, _, _, _, _, _, _, _, _, _, _, _, _, _, _, _, _, _, _, _, _, _, _, _, _, _, _, _, _, _, _, _, _, _, _, _, _, _, _, _, _, _, _, _, _, rfl⟩, _, _, _, _, _, _, rfl⟩
      · have HF := Lib.hid (show tkReq zs i = none by simp [tkReq, H0.out, h1])
        clear h1
        go_wp2
        go_step3
        go_wp2
        exact ⟨rfl, HF.out, ⟨_, _, _, _, _, _, _, _, _, _, _, _, _, _, _, _, _, _, _, _, _, _, _, _, _, _, _, _, _, _, _, _, _, _, _, _, _, _, _, _, _, _, _, _, _, _, _, _, _, _, _, _, _, _, _, _, _, _, _, _, _, _, _, _, _, _, _, _, _, _, rfl⟩, _, _, _, _, _, _, rfl⟩
    · have HF := Lib.hid (show tkReq zs i = none by simp [tkReq, h1])
      clear h1
      go_wp2
      go_step3
      go_wp2
      exact ⟨rfl, HF.out, ⟨_, _, _, _, _, _, _, _, _, _, _, _, _, _, _, _, _, _, _, _, _, _, _, _, _, _, _, _, _, _, _, _, _, _, _, _, _, _, _, _, _, _, _, _, _, _, _, _, _, _, _, _, _, _, _, _, _, _, _, _, _, _, _, _, _, _, _, _, _, _, rfl⟩, _, _, _, _, _, _, rfl⟩
  · rintro l a' w' ⟨rfl, hr, ⟨u2, u3, u5, u6, u7, u8, u9, u10, u11, u12, u13, u14, u15, u16, u17, u18, u19, u20, u21, u22, u23, u24, u25, u26, u27, u28, u29, u30, u31, u32, u33, u34, u35, u36, u37, u38, u39, u40, u41, u42, u43, u44, u45, u46, u47, u48, u49, u50, u51, u52, u53, u54, u55, u56, u57, u58, u59, u60, u61, u62, u63, u64, u65, u66, u67, u68, u69, u70, u71, u72, rfl⟩, c0, c1, c2, c3, c4, c5, rfl⟩
    refine ⟨_, rfl, ?_⟩
    have HR := Lib.hid hr
    clear hr
    go_wp2
    exact bodyPost_ret (v := .tuple #[.agg #[.int .i64 0, .int .i64 0, .int .i64 0, .int .i64 0, .int .i64 0, .int .i64 0], .int .i64 0, .bool false]) (by simp [results, Tryz.results146, go_sem]) rfl ⟨(Below.refl _ w).alloc (Nat.le_refl _) _, Or.inr ⟨HR.out, rfl⟩⟩
end Go.Proofs.YtbebfgfpdcdcoaaGreat
