/- The example that each law of messages ends in: it holds. -/
import Derived.Test.YtiffmjfbdidgkaaGreatOMsgUnseal
import Derived.Test.YtiffmjfbdidgkaaGreatOS6
import Derived.Test.YtiffmjfbdidgkaaGreatOS0
import Derived.Test.YtiffmjfbdidgkaaGreatOMsgBody
import Derived.Test.YtiffmjfbdidgkaaGreatOS1
import Derived.Deep.QuietTactic
import Derived.BigQuiet
import Derived.Laws.MakeOwn
namespace Go.Proofs.YtiffmjfbdidgkaaGreat
open Go.RowKit

/-- The example's message: node 2 votes to leave view 1. -/
def mE : Mg := ⟨6, 2, 1, 0, 0, 0, [], [], [], []⟩
def bsE : List Int := [6, 2, 1, 0, 0, 0, 0, 0, 0, 0]
theorem enc_lit {n : Nat} (h : n < 128) : enc n = [(n : Int)] := enc_small h
theorem mE_codes : codes mE.toks = some [6, 2, 1, 0, 0, 0, 0, 0, 0, 0] := by decide +kernel
theorem mE_body : bodyM mE = some bsE := by
  have h : bytesOf mE.toks = some bsE := by
    unfold bytesOf
    rw [mE_codes]
    simp only [Option.map_some, flat, List.flatMap_cons, List.flatMap_nil, enc_lit (show 6 < 128 by decide), enc_lit (show 2 < 128 by decide), enc_lit (show 1 < 128 by decide), enc_lit (show 0 < 128 by decide)]
    rfl
  unfold bodyM
  rw [h]
  exact if_pos (by decide)
theorem envE : envS 1 bsE = some (1 :: bsE) := by
  have h : bytesOf [.num 1] = some [1] := by
    unfold bytesOf
    rw [show codes [.num 1] = some [1] by decide +kernel]
    simp only [Option.map_some, flat, List.flatMap_cons, List.flatMap_nil, enc_lit (show 1 < 128 by decide)]
    rfl
  unfold envS capped
  rw [h]
  rfl
theorem tkE : tkNum (1 :: bsE) 0 = some (1, 1) := by rfl
theorem sealE (d : Deed) : sealS [] d = 1 := by rfl
theorem sealedE (d : Deed) : sealed [] d = [d] := by simp [sealed]
theorem checkE (d : Deed) : checkS [d] d 1 = true := by simp [checkS, findS, idx]
def fE (m : Mg) : Bool := formW m 1 false (decide (0 ≤ m.vw) && decide (m.vw ≤ 11))
theorem fE_is : fE mE = true := by decide +kernel
theorem openE : openS fE (1 :: bsE) [deedM mE bsE] = some (mE, 1) := by
  unfold openS
  rw [if_pos (by decide), tkE]
  simp only [show (1 : Int).toNat = 1 from rfl, List.drop_succ_cons, List.drop_zero, parse_body mE_body, fE_is, checkE, Bool.and_self, if_true]
theorem formE (x : Ms) (h : x.m = mE) (w : World) : Calls Tryz.prog 37 #[.agg #[.int .i64 x.m.kd, .int .i64 x.m.fr, .int .i64 x.m.vw, .int .i64 x.m.ins, .int .i64 x.m.sq, .int .i64 x.m.rs, .slice x.A1 x.m.bt.length x.c1, .slice x.A2 x.m.vs.length x.c2, .slice x.A3 x.m.cs.length x.c3, .slice x.A4 x.m.ps.length x.c4], .int .i64 1, .int .i64 1] w fun e w2 => e = .returned (.bool (fE x.m)) ∧ Below w.heap.size w w2 := by
  have hk : x.m.kd = 6 := by rw [h]; rfl
  exact form_with x 1 1 false (decide (0 ≤ x.m.vw) && decide (x.m.vw ≤ 11)) w (fun h1 => absurd h1 (by rw [hk]; decide)) (fun _ _ w' _ => nodeform6 x hk 1 1 w')
def msE : Ms := ⟨mE, none, 0, none, 0, none, 0, none, 0⟩
theorem msE_in (w : World) (B : Nat) : msE.In w B := ⟨Has.nil _ _ _, Has.nil _ _ _, ⟨[], rfl, Has.nil _ _ _, by simp⟩, ⟨[], rfl, Has.nil _ _ _, by simp⟩⟩
set_option maxHeartbeats 4000000 in
set_option maxRecDepth 100000 in
theorem wakes6_any (w : World) : Calls Tryz.prog 9 #[] w fun e w' => e = .returned (.bool true) ∧ Below w.heap.size w w' := by
  go_enter Tryz.func9, Tryz.ntmps9
  go_wp2_with fail
  refine (parse_any none 0 [] 0 0 rfl (by decide) (by simp) w (Nat.zero_le _) (Has.nil _ _ _)).mono ?_
  rintro e w1 ⟨hb1, ⟨x, hx, _⟩ | ⟨_, rfl⟩⟩
  · rw [parse_nil] at hx; cases hx
  have HB1 := Lib.hid hb1
  clear hb1
  go_wp2_with fail
  have HB2 := Lib.hid (fun cs => HB1.out.alloc HB1.out.size (.cells cs 35))
  refine (new_any _).mono ?_
  rintro e w2 ⟨nb, bm, rfl, hN, hnb, hbm, hb2⟩
  have HB3 := Lib.hid ((HB2.out _).trans (hb2.mono (HB2.out _).size))
  have hnb1 : w.heap.size ≤ bm := Nat.le_trans (HB2.out _).size hbm
  have HN := Lib.hid hN
  have hbl := hN.lt
  clear hnb hbm hN hb2 HB1 HB2
  go_wp2_with fail
  refine (mseal_any msE (msE_in _ _) (by decide) (num_small (by decide) (by decide)) HN.out (Nat.zero_le _)).mono ?_
  rintro e w3 (⟨h1, _⟩ | ⟨bs, h1, hN3, ht, ⟨es, A, c, h2, rfl, ho⟩ | ⟨h2, rfl⟩⟩)
  · rw [show msE.m = mE from rfl, mE_body] at h1; cases h1
  · rw [show msE.m = mE from rfl] at h1 h2 hN3
    rw [mE_body] at h1
    cases h1
    rw [sealE, envE] at h2
    cases h2
    rw [sealedE] at hN3
    have HO := Lib.hid ho
    have HN3 := Lib.hid hN3
    have HB4 := Lib.hid (HB3.out.trans (ht.below HB3.out.size (fun k hk e => by omega)))
    have hcs := own_caps ho
    clear ht ho hN3 HN
    go_wp2_with fail
    refine (open_with HN3.out (n := 11) (zs := 1 :: bsE) rfl hcs.1 (by decide) (by decide) (Nat.le_refl _) (Has.own HO.out) 1 1 fE (fun x k i w' h1 h2 _ _ => by
      rw [tkE] at h1
      injection h1 with h1
      injection h1 with _ h1
      obtain rfl : i = 1 := by omega
      have h2 : parseM bsE = some x.m := h2
      rw [parse_body mE_body] at h2
      injection h2 with h2
      exact formE x h2.symm w')).mono ?_
    rintro e w5 ⟨hb5, ⟨x, k, hx, rfl, ho5⟩ | ⟨hx, _⟩⟩
    · rw [openE] at hx
      injection hx with hx
      injection hx with hx hk
      subst hk
      obtain ⟨m, A1, c1, A2, c2, A3, c3, A4, c4⟩ := x
      simp only at hx
      subst hx
      have HB5 := Lib.hid (HB4.out.trans (hb5.mono HB4.out.size))
      clear hb5 ho5
      simp only [mE]
      go_wp2_with fail
      go_ret
      exact ⟨rfl, HB5.out.alloc HB5.out.size _⟩
    · rw [openE] at hx; cases hx
  · rw [show msE.m = mE from rfl] at h1 h2
    rw [mE_body] at h1
    cases h1
    rw [sealE, envE] at h2
    cases h2
end Go.Proofs.YtiffmjfbdidgkaaGreat
/- The contracts of the document's own Envelope and Form at votes to leave a view; make([]byte, n). -/
namespace Go.Proofs.YtiffmjfbdidgkaaGreat
open Go.RowKit

end Go.Proofs.YtiffmjfbdidgkaaGreat
