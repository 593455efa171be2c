/- The contracts of the document's own Envelope and Form at votes to leave a view; make([]byte, n). -/
import Derived.Test.YtbebfgfpdcdcoaaGreatOMsgBody
import Derived.Test.YtbebfgfpdcdcoaaGreatOMsgWake
import Derived.Test.YtbebfgfpdcdcoaaGreatOS0
import Derived.Deep.QuietTactic
import Derived.BigQuiet
import Derived.Laws.MakeOwn
namespace Go.Proofs.YtbebfgfpdcdcoaaGreat
open Go.RowKit

theorem num_some {m : Nat} (hm : m < 1099511627776) : bytesOf [.num (m : Int)] = some (enc m) := by
  have := codes_one (code_num.2 ⟨rfl, hm⟩ : (Tok.num (m : Int)).code = some m)
  simp [bytesOf, this, flat]
theorem num_no {z : Int} (h : z < 0 ∨ 1099511627776 ≤ z) : bytesOf [.num z] = none := by
  have : (Tok.num z).code = none := if_neg (by omega)
  simp [bytesOf, codes_none_head this]
theorem envS_in {m : Nat} (hm : m < 1099511627776) (zs : List Int) : envS m zs = if (enc m).length + zs.length ≤ 65536 then some (enc m ++ zs) else none := by
  have hl := enc_len 5 m (by omega)
  unfold envS
  rw [capped_some (num_some hm), if_pos (by omega)]
  rfl
theorem envS_out {z : Int} (h : z < 0 ∨ 1099511627776 ≤ z) (zs : List Int) : envS z zs = none := by
  unfold envS
  rw [capped_none (num_no h)]
  rfl
set_option maxHeartbeats 2000000 in
set_option maxRecDepth 100000 in
theorem renvelope_any (k : Int) {A : Option Addr} {n c : Nat} {zs : List Int} (hn : zs.length = n) (hm : n ≤ 4503599627370496) (w : World) (hh : Has w w.heap.size A (u8s zs)) (hnil : A = none → c = 0) :
    Calls Tryz.prog 26 #[.int .i64 k, .slice A n c] w (MsgPost (envS k zs) w) := by
  obtain ⟨i0, hi0, hz0, hz1, hz2⟩ := info_parts Tryz.info5
  have HH := Lib.hid hh
  have HN := Lib.hid hn
  clear hh hn
  by_cases hk : 0 ≤ k ∧ k < 1099511627776
  · obtain ⟨m, rfl⟩ := Int.eq_ofNat_of_zero_le hk.1
    have hm1 : m < 1099511627776 := by omega
    have hl := enc_len 5 m (by omega)
    have HE := Lib.hid (envS_in hm1 zs)
    rw [HN.out] at HE
    clear hk
    go_enter Tryz.func26, Tryz.ntmps26
    go_wp2_with fail
    refine (refnumber_row m hm1 _).mono ?_
    rintro e w1 ⟨g, c1, rfl, ho, hb⟩
    obtain ⟨q, hq⟩ : ∃ q, (enc m).length = q := ⟨_, rfl⟩
    have HO := Lib.hid ho
    have HB := Lib.hid hb
    have HH1 := Lib.hid ((HH.out.below hb (Nat.le_refl _)).more hb.size)
    have HQ := Lib.hid hq
    rw [hq] at hl HE HO ⊢
    clear ho hb hq
    by_cases hs : q + n ≤ 65536
    · have t0 : decide ((65536 : Int) < (q : Int) + (n : Int)) = false := decide_eq_false (by omega)
      have HE2 := Lib.hid (HE.out.trans (if_pos hs))
      clear HE
      go_wp2_with (at_builtin; refine wpList_app rfl (.tmp 23) (.tmp 24) 39 rfl w.heap.size 5 i0 (.int .u8 0) 1 Tryz.underlying39 hi0 hz0 hz1 hz2 rfl _ _ _ rfl HO.out _ A n c (u8s zs) rfl (by rw [u8s_len]; exact HN.out) HH1.out hnil (u8s_one _) (by unfold maxLen; omega) (by omega) HB.out.size ?_)
      intro v2 w2 ho2 hg2 hb2
      have HB2 := Lib.hid (HB.out.grown hg2 HB.out.size (fun k hk => (HO.out.lt k hk).1))
      have ho3 : w2.ownsRow w.heap.size 5 1 v2 (enc m ++ zs).length (u8s (enc m ++ zs)) := by
        rw [u8s_app, List.length_append, HQ.out, HN.out]; exact ho2
      obtain ⟨A2, c2, rfl, _, _⟩ := own_slice ho3
      have HO3 := Lib.hid ho3
      clear ho2 hg2 hb2 ho3
      go_wp2
      go_ret2
      exact ⟨HB2.out, Or.inl ⟨enc m ++ zs, A2, c2, HE2.out, rfl, HO3.out⟩⟩
    · have t0 : decide ((65536 : Int) < (q : Int) + (n : Int)) = true := decide_eq_true (by omega)
      have HE2 := Lib.hid (HE.out.trans (if_neg hs))
      clear HE
      go_wp2_with fail
      go_ret2
      exact ⟨HB.out, Or.inr ⟨HE2.out, rfl⟩⟩
  · have hk' : k < 0 ∨ 1099511627776 ≤ k := by omega
    have HE := Lib.hid (envS_out hk' zs)
    have HR := Lib.hid (fun w => refnumber_none k hk' w)
    clear hk hk'
    go_enter Tryz.func26, Tryz.ntmps26
    go_wp2_with fail
    refine (HR.out _).mono ?_
    rintro e w1 ⟨rfl, rfl⟩
    go_wp2_with fail
    go_ret2
    exact ⟨Below.refl _ _, Or.inr ⟨HE.out, rfl⟩⟩
/-- The least vote to leave a view. -/
def mC : Mg := ⟨6, 0, 0, 0, 0, 0, [], [], [], []⟩
def bsC : List Int := [6, 0, 0, 0, 0, 0, 0, 0, 0, 0]
theorem mC_codes : codes mC.toks = some [6, 0, 0, 0, 0, 0, 0, 0, 0, 0] := by decide +kernel
theorem mC_body : bodyM mC = some bsC := by
  have h : bytesOf mC.toks = some bsC := by
    unfold bytesOf
    rw [mC_codes]
    simp only [Option.map_some, flat, List.flatMap_cons, List.flatMap_nil, enc_lit (show 6 < 128 by decide), enc_lit (show 0 < 128 by decide)]
    rfl
  unfold bodyM
  rw [h]
  exact if_pos (by decide)
def msC : Ms := ⟨mC, none, 0, none, 0, none, 0, none, 0⟩
theorem msC_in (w : World) (B : Nat) : msC.In w B := ⟨Has.nil _ _ _, Has.nil _ _ _, ⟨[], rfl, Has.nil _ _ _, by simp⟩, ⟨[], rfl, Has.nil _ _ _, by simp⟩⟩
theorem mC_form (w : World) : Calls Tryz.prog 29 #[.agg #[.int .i64 6, .int .i64 0, .int .i64 0, .int .i64 0, .int .i64 0, .int .i64 0, .slice none 0 0, .slice none 0 0, .slice none 0 0, .slice none 0 0], .int .i64 1, .int .i64 1] w fun e w2 => e = .returned (.bool true) ∧ Below w.heap.size w w2 := by
  have h := form_with msC 1 1 false (decide (0 ≤ msC.m.vw) && decide (msC.m.vw ≤ 11)) w (fun h1 => absurd h1 (by decide)) (fun _ _ w' _ => nodeform6 msC rfl 1 1 w')
  have hv : formW msC.m 1 false (decide (0 ≤ msC.m.vw) && decide (msC.m.vw ≤ 11)) = true := by decide +kernel
  rw [hv] at h
  exact h
set_option maxHeartbeats 2000000 in
set_option maxRecDepth 100000 in
theorem rmC_form (w : World) : Calls Tryz.prog 28 #[.agg #[.int .i64 6, .int .i64 0, .int .i64 0, .int .i64 0, .int .i64 0, .int .i64 0, .slice none 0 0, .slice none 0 0, .slice none 0 0, .slice none 0 0], .int .i64 1, .int .i64 1] w fun e w2 => e = .returned (.bool true) ∧ Below w.heap.size w w2 := by
  have HB := Lib.hid (fun cs => show Below w.heap.size w (w.alloc (.cells cs 38)) from (Below.refl _ w).alloc (Nat.le_refl _) _)
  have HN := Lib.hid (rnodes_any 1)
  rw [nodesS_in (by decide) (by decide)] at HN
  have HNq := Lib.hid (fun w => (HN.out w).mono (R' := fun e w' => e = .returned (.int .i64 4) ∧ w' = w) (fun e w' he => ⟨he.1, he.2.symm⟩))
  have HBk := Lib.hid (fun w => rblank_none w)
  go_enter Tryz.func28, Tryz.ntmps28
  go_wp2_with fail
  refine (HNq.out _).mono ?_
  rintro e w1 ⟨rfl, rfl⟩
  go_wp2_with fail
  go_quiet ((go_at_call 45; exact Calls.quiet_of_same (HNq.out _)))
  go_wp2_with fail
  refine (HBk.out _).mono ?_
  rintro e w2 ⟨rfl, hb2⟩
  have hd := hb2.cell (p := ⟨w.heap.size, 2, none⟩) (by show w.heap.size < _; simp)
  go_wp2_with fail
  go_ret
  exact ⟨rfl, (below_drewN (HB.out _) _).trans (hb2.mono (HB.out _).size)⟩
end Go.Proofs.YtbebfgfpdcdcoaaGreat
