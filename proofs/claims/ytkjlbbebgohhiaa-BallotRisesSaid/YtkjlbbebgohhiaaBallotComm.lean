/- The contract of ballot's Common, at votes by any nodes. -/
import Derived.Test.YtkjlbbebgohhiaaBallotRise
namespace Go.Proofs.Ytkjlbbebgohhiaa
open Go.RowKit

theorem marked_putB {bs : List Bool} (hl : bs.length = 13) (z : Int) {k : Nat} (hk : k < 13) : marked (putS bs z) (k : Int) = (marked bs (k : Int) || (z == (k : Int))) := by
  by_cases hz : z = (k : Int)
  · subst hz
    have h1 : putS bs (k : Int) = bs.set k true := by unfold putS; rw [if_pos (by omega)]; rfl
    rw [h1, marked_nat hk, List.getElem?_set_self (by omega)]
    simp
  · rw [put_else (fun e => hz e.symm)]
    have : (z == (k : Int)) = false := by rw [beq_eq_false_iff_ne]; exact hz
    rw [this, Bool.or_false]
theorem inL_next {l : List Vt} {i : Nat} {v : Vt} (h : l[i]? = some v) (k : Nat) : inL (l.take (i + 1)) k = (inL (l.take i) k || (v.nd == (k : Int))) := by
  unfold inL
  rw [List.take_add_one, h, List.any_append]
  simp
theorem own_lower {w : World} {b b' n : Nat} {e : TypeId} {size : Nat} {v : Value} {xs : List Value} (h : w.ownsRow b e size v n xs) (hb : b' ≤ b) : w.ownsRow b' e size v n xs := by
  refine ⟨h.1, ?_⟩
  rcases h.2 with h2 | ⟨g, cap, cur, hv, hg, r⟩
  · exact Or.inl h2
  · exact Or.inr ⟨g, cap, cur, hv, Nat.le_trans hb hg, r⟩
/-- The first set, and the other one. -/
structure CmSt (w : World) (b1 b2 : List Bool) (wr : World) : Prop where
  s1 : SetIs wr w.heap.size b1
  s2 : SetIs wr (w.heap.size + 1) b2
  low : Below w.heap.size w wr
theorem CmSt.box {w wr : World} {b1 b2 : List Bool} (h : CmSt w b1 b2 wr) (o : Obj) : CmSt w b1 b2 (wr.alloc o) :=
  ⟨⟨h.s1.len, h.s1.blk.alloc o⟩, ⟨h.s2.len, h.s2.blk.alloc o⟩, h.low.alloc h.low.size o⟩
theorem CmSt.drewN {w wr : World} {b1 b2 : List Bool} (h : CmSt w b1 b2 wr) (n : Nat) : CmSt w b1 b2 (wr.drewN n) :=
  ⟨h.s1.drewN n, h.s2.drewN n, h.low.trans ⟨rfl, rfl, rfl, Nat.le_refl _, fun _ _ => rfl⟩⟩
theorem CmSt.put1 {w wr w2 : World} {b1 b2 b3 : List Bool} (h : CmSt w b1 b2 wr) (hs : SetIs w2 w.heap.size b3) (ho : Only w.heap.size wr w2) : CmSt w b3 b2 w2 :=
  ⟨hs, h.s2.only ho (by omega), h.low.trans (ho.below (Nat.le_refl _) h.low.size)⟩
theorem CmSt.put2 {w wr w2 : World} {b1 b2 b3 : List Bool} (h : CmSt w b1 b2 wr) (hs : SetIs w2 (w.heap.size + 1) b3) (ho : Only (w.heap.size + 1) wr w2) : CmSt w b1 b3 w2 :=
  ⟨h.s1.only ho (by omega), hs, h.low.trans (ho.below (Nat.le_succ _) h.low.size)⟩
theorem all_common {bs : List Bool} {a b : List Vt} (h : ∀ k : Nat, k < 13 → marked bs (k : Int) = (inL a k && inL b k)) : allS bs = commonS a b := by
  unfold allS commonS comK
  congr 1
  exact List.filter_congr fun k hk => h k (List.mem_range.1 hk)

set_option maxHeartbeats 2000000 in
theorem common_any {w : World} {B n c B2 n2 c2 : Nat} {A A2 : Option Addr} {a b : List Vt} (ha : Has w B A (voteCells a)) (hn : a.length = n) (hm : n ≤ maxLen) (hb : Has w B2 A2 (voteCells b)) (hn2 : b.length = n2) (hm2 : n2 ≤ maxLen) :
    Calls Try.prog 30 #[.slice A n c, .slice A2 n2 c2] w fun e w' => ∃ v, e = .returned v ∧ w'.ownsRow w.heap.size 3 1 v (commonS a b).length (intCells (commonS a b)) ∧ Below w.heap.size w w' := by
  have HA := Lib.hid ha.tight
  have HB := Lib.hid hb.tight
  have HLa := Lib.hid hn
  have HLb := Lib.hid hn2
  unfold maxLen at hm hm2
  clear ha hb hn hn2
  go_enter Try.func30, Try.ntmps30
  go_wp2_with fail
  have HS0 := Lib.hid (show CmSt w noMarks noMarks ((w.alloc (.cells #[.int .u16 0] 30)).alloc (.cells #[.int .u16 0] 30)) from
    ⟨⟨rfl, (Blk.new w _ _).alloc _⟩, ⟨rfl, Blk.new1 w _ _ _⟩, ((Below.refl _ _).alloc (Nat.le_refl _) _).alloc (by simp) _⟩)
  go_loopw [13] (fun y wr => ∃ (i : Nat) (b1 : List Bool), y = .int .i64 i ∧ i ≤ n ∧ Hid (CmSt w b1 noMarks wr) ∧ Hid (∀ k : Nat, k < 13 → marked b1 (k : Int) = inL (a.take i) k)) (fun y _ => n - (intOf y).toNat)
  case atStart => exact ⟨0, noMarks, rfl, Nat.zero_le _, HS0.out, fun k _ => by rw [none_marked]; rfl⟩
  case round =>
    obtain ⟨i, b1, rfl, hi, HS, HM⟩ := hrel
    by_cases hlt : i < n
    · have hil : i < a.length := by rw [HLa.out]; exact hlt
      obtain ⟨ad, rfl, _, d0, d1⟩ := vote_at (HA.out.below HS.out.low (Nat.le_refl _)) hil
      obtain ⟨v, hv⟩ : ∃ v, a[i] = v := ⟨_, rfl⟩
      rw [hv] at d0 d1
      have HX := Lib.hid (HS.out.box (.cells #[.int .i64 v.nd, .int .i64 v.sg] 38))
      have HP := Lib.hid (put_any HX.out.s1 v.nd)
      have HM2 := Lib.hid (show ∀ k : Nat, k < 13 → marked (putS b1 v.nd) (k : Int) = inL (a.take (i + 1)) k from fun k hk => by
        rw [marked_putB HS.out.s1.len v.nd hk, HM.out k hk, inL_next (show a[i]? = some v by rw [List.getElem?_eq_getElem hil, hv])])
      clear hv hil
      go_wp2_with fail
      refine HP.out.mono ?_
      rintro e w2 ⟨rfl, hs2, ho2⟩
      have HS2 := Lib.hid (HX.out.put1 hs2 ho2)
      clear hs2 ho2
      go_wp2_with fail
      go_roundw
      case rel => exact ⟨i + 1, _, by go_num, by omega, HS2.out, HM2.out⟩
      case measure => simp [intOf]; omega
    · obtain rfl : i = n := by omega
      have HMa := Lib.hid (show ∀ k : Nat, k < 13 → marked b1 (k : Int) = inL a k from fun k hk => by
        rw [HM.out k hk, List.take_of_length_le (by rw [HLa.out]; exact Nat.le_refl _)])
      have HS1 := Lib.hid HS.out
      clear HS0 HM HS
      go_wp2_with fail
      go_loopw [23] (fun y wr => ∃ (i : Nat) (b2 : List Bool), y = .int .i64 i ∧ i ≤ n2 ∧ Hid (CmSt w b1 b2 wr) ∧ Hid (∀ k : Nat, k < 13 → marked b2 (k : Int) = (inL a k && inL (b.take i) k))) (fun y _ => n2 - (intOf y).toNat)
      case atStart => exact ⟨0, noMarks, rfl, Nat.zero_le _, HS1.out, fun k _ => by rw [none_marked]; simp [inL]⟩
      case round =>
        obtain ⟨j, b2, rfl, hj, HS, HM⟩ := hrel
        by_cases hlt2 : j < n2
        · have hil : j < b.length := by rw [HLb.out]; exact hlt2
          obtain ⟨ad, rfl, _, d0, d1⟩ := vote_at (HB.out.below HS.out.low (Nat.le_refl _)) hil
          obtain ⟨v, hv⟩ : ∃ v, b[j] = v := ⟨_, rfl⟩
          rw [hv] at d0 d1
          have HX := Lib.hid (HS.out.box (.cells #[.int .i64 v.nd, .int .i64 v.sg] 38))
          have HH := Lib.hid (has_any HX.out.s1 v.nd)
          have HV := Lib.hid (show b[j]? = some v by rw [List.getElem?_eq_getElem hil, hv])
          clear hv hil
          cases hb : marked b1 v.nd
          · rw [hb] at HH
            have HM2 := Lib.hid (show ∀ k : Nat, k < 13 → marked b2 (k : Int) = (inL a k && inL (b.take (j + 1)) k) from fun k hk => by
              rw [HM.out k hk, inL_next HV.out]
              by_cases e : v.nd = (k : Int)
              · have := HMa.out k hk
                rw [← e, hb] at this
                rw [← this]; rfl
              · rw [show (v.nd == (k : Int)) = false by rw [beq_eq_false_iff_ne]; exact e, Bool.or_false])
            clear hb
            go_wp2_with fail
            refine HH.out.mono ?_
            rintro e w2 ⟨rfl, m, rfl⟩
            go_wp2_with fail
            go_roundw
            case rel => exact ⟨j + 1, b2, by go_num, by omega, HX.out.drewN m, HM2.out⟩
            case measure => simp [intOf]; omega
          · rw [hb] at HH
            have HP := Lib.hid (fun m => put_any (HX.out.drewN m).s2 v.nd)
            have HM2 := Lib.hid (show ∀ k : Nat, k < 13 → marked (putS b2 v.nd) (k : Int) = (inL a k && inL (b.take (j + 1)) k) from fun k hk => by
              rw [marked_putB HS.out.s2.len v.nd hk, HM.out k hk, inL_next HV.out]
              by_cases e : v.nd = (k : Int)
              · have := HMa.out k hk
                rw [← e, hb] at this
                rw [← this, e]; simp
              · rw [show (v.nd == (k : Int)) = false by rw [beq_eq_false_iff_ne]; exact e, Bool.or_false, Bool.or_false])
            clear hb
            go_wp2_with fail
            refine HH.out.mono ?_
            rintro e w2 ⟨rfl, m, rfl⟩
            go_wp2_with fail
            refine (HP.out m).mono ?_
            rintro e w3 ⟨rfl, hs3, ho3⟩
            have HS3 := Lib.hid ((HX.out.drewN m).put2 hs3 ho3)
            clear hs3 ho3
            go_wp2_with fail
            go_roundw
            case rel => exact ⟨j + 1, _, by go_num, by omega, HS3.out, HM2.out⟩
            case measure => simp [intOf]; omega
        · obtain rfl : j = n2 := by omega
          have HE := Lib.hid (all_common (a := a) (b := b) (bs := b2) (fun k hk => by rw [HM.out k hk, List.take_of_length_le (by rw [HLb.out]; exact Nat.le_refl _)]))
          have HAll := Lib.hid (all_any HS.out.s2)
          rw [HE.out] at HAll
          go_wp2_with fail
          refine HAll.out.mono ?_
          rintro e w4 ⟨v, rfl, ho4, hb4⟩
          have HO := Lib.hid ho4
          have HB4 := Lib.hid hb4
          clear ho4 hb4
          go_wp2_with fail
          go_ret
          exact ⟨v, rfl, own_lower HO.out HS.out.low.size, HS.out.low.trans (HB4.out.mono HS.out.low.size)⟩
theorem rowLaws : RowLaws := ⟨rising_any, fun h1 h2 h3 h4 h5 h6 _ _ => common_any h1 h2 h3 h4 h5 h6⟩
end Go.Proofs.Ytkjlbbebgohhiaa
