/- The walk of CodeRows: it returns true for any ints. -/
import Derived.Test.YtfjgcpeaghlcgaaCutsWalk
namespace Go.Proofs.Ytfjgcpeaghlcgaa
open Go.RowKit

def i64s (ns : List Nat) : List Value := ns.map fun (m : Nat) => Value.int .i64 (m : Int)
theorem i64s_app (l m : List Nat) : i64s (l ++ m) = i64s l ++ i64s m := by simp [i64s]
theorem i64s_len (l : List Nat) : (i64s l).length = l.length := by simp [i64s]
theorem i64s_at {w : World} {B : Nat} {A : Option Addr} {ns r : List Nat} {j m : Nat} (h : Has w B A (i64s ns)) (hd : ns.drop j = m :: r) : ∃ ad, A = some ad ∧ w.cell? (ad.add j) = some (.int .i64 m) := by
  have hj := (take_more hd).2
  have hd2 := hd
  rw [List.drop_eq_getElem_cons hj] at hd2
  injection hd2 with hd2 _
  obtain ⟨ad, hA, _, hc⟩ := h j (.int .i64 (m : Int)) (by simp [i64s, List.getElem?_map, List.getElem?_eq_getElem hj, hd2])
  exact ⟨ad, hA, hc⟩

/-- What holds at the head of the first loop: so many have been looked at, these numbers have been gathered. -/
def RowsRel (w : World) (len : Nat) (vb vw x : Value) (wr : World) : Prop :=
  ∃ (k : Nat) (ns : List Nat), x = .int .i64 k ∧ k ≤ len ∧ k ≤ 60 ∧ ns.length ≤ k ∧ (∀ m ∈ ns, m < 1099511627776) ∧
    wr.ownsRow w.heap.size 5 1 vb (flat ns).length (u8s (flat ns)) ∧ wr.ownsRow w.heap.size 3 1 vw ns.length (i64s ns) ∧ Below w.heap.size w wr
/-- What holds at the head of the second: so many have been taken. -/
def RowsRel2 (ns : List Nat) (x y : Value) : Prop := ∃ j : Nat, y = .int .i64 j ∧ j ≤ ns.length ∧ x = .int .i64 ((flat (ns.take j)).length : Int)

theorem below_own {w w' : World} {b n s : Nat} {e : TypeId} {v : Value} {xs : List Value} {B : Nat} (h : w.ownsRow b e s v n xs) (hb : Below B w w') (hB : w.heap.size ≤ B) : w'.ownsRow b e s v n xs := by
  refine ⟨h.1, ?_⟩
  rcases h.2 with h2 | ⟨g, cap, cur, hv, hg, hh, r⟩
  · exact Or.inl h2
  · have hlt : g < w.heap.size := by
      rcases Nat.lt_or_ge g w.heap.size with h3 | h3
      · exact h3
      · rw [Array.getElem?_eq_none h3] at hh; cases hh
    exact Or.inr ⟨g, cap, cur, hv, hg, (hb.block g (by omega)).trans hh, r⟩

set_option maxHeartbeats 1000000 in
set_option maxRecDepth 100000 in
theorem codeRows_walk (A : Option Addr) (c : Nat) (zs : List Int) (w : World) (w0 : IsList .i64 w A zs c) :
    Calls Try.prog 9 #[.slice A zs.length c] w fun e w' => e = .returned (.bool true) ∧ Below w.heap.size w w' := by
  have hcap := w0.le
  have hmost := w0.most
  unfold maxLen at hmost
  have HH := Lib.hid w0.has
  clear w0
  obtain ⟨i0, hi, hz0, hz1, hz2⟩ := info_parts Try.info5
  obtain ⟨i1, hj, hy0, hy1, hy2⟩ := info_parts Try.info3
  go_enter Try.func9, Try.ntmps9
  go_wp2_with fail
  go_loopw [3, 4, 5] (fun vb vw x wr => RowsRel w zs.length vb vw x wr) (fun _ _ x _ => 60 - (intOf x).toNat)
  case atStart => exact ⟨0, [], rfl, Nat.zero_le _, Nat.zero_le _, Nat.le_refl _, by simp, World.ownsRow_nil _ _ _ _, World.ownsRow_nil _ _ _ _, Below.refl _ _⟩
  case round =>
    obtain ⟨k, ns, rfl, hk, hk60, hns, hall, hown, howt, hb⟩ := hrel
    have hfl := flat_len ns hall
    have HALL := Lib.hid hall
    clear hall
    by_cases hlt : k < zs.length ∧ k < 60
    · obtain ⟨h1, h2⟩ := hlt
      obtain ⟨ad, z, rfl, hblk, hc, _, _⟩ := (HH.out.below hb (Nat.le_refl _)).int h1
      by_cases hz : 0 ≤ z ∧ z < 1099511627776
      · obtain ⟨m, rfl⟩ := Int.eq_ofNat_of_zero_le hz.1
        have hm : m < 1099511627776 := by omega
        have hel := enc_len 5 m (by omega)
        clear hz
        go_wp2_with fail
        refine (number_row m hm _).mono ?_
        rintro e w1 ⟨g, cc, rfl, ho, hb1⟩
        have hgrow1 := hb1.size
        have hb2 := hb.trans (hb1.mono hb.size)
        have hown1 := below_own hown hb1 (Nat.le_refl _)
        have howt1 := below_own howt hb1 (Nat.le_refl _)
        have HC := Lib.hid ((hb1.cell (p := ad.add k) (by rw [addr_block]; exact Nat.lt_of_lt_of_le hblk hb.size)).trans hc)
        have HO := Lib.hid (Has.own ho)
        clear ho hown howt hc
        go_wp2_with (at_builtin; refine wpList_app rfl (.tmp 35) (.tmp 36) 26 rfl w.heap.size 5 i0 (.int .u8 0) 1 Try.underlying26 hi hz0 hz1 hz2 rfl _ _ _ rfl hown1 _ (some ⟨g, 0, none⟩) (enc m).length cc (u8s (enc m)) rfl (u8s_len _) HO.out (fun h => by cases h) (u8s_one _) (by unfold maxLen; omega) (by omega) hb2.size ?_)
        intro v1 w2 ho1 hg1 hb3
        have ho2 : w2.ownsRow w.heap.size 5 1 v1 (flat (ns ++ [m])).length (u8s (flat (ns ++ [m]))) := by
          rw [flat_app, u8s_app, List.length_append, show flat [m] = enc m by simp [flat]]; exact ho1
        have howt2 := howt1.kept hg1 (own_apart howt1 hown1 (by decide))
        have hb4 := hb2.trans hb3
        have hc2 := (hb3.cell (p := ad.add k) (by rw [addr_block]; exact hblk)).trans HC.out
        have HO2 := Lib.hid ho2
        clear ho1 ho2 hg1 howt1 hown1
        go_wp2_with (at_builtin; refine wpList_app rfl (.tmp 38) (.tmp 43) 25 rfl w.heap.size 3 i1 (.int .i64 0) 8 Try.underlying25 hj hy0 hy1 hy2 rfl _ _ _ rfl (howt2.alloc _) _ (some ⟨w2.heap.size, 0, none⟩) 1 1 [.int .i64 (m : Int)] rfl rfl (Has.fresh w2 #[.int .i64 (m : Int)] 3) (fun h => by cases h) (by simp; rfl) (by unfold maxLen; omega) (by omega) (by have := hb4.size; simp; omega) ?_)
        intro v2 w3 ho3 hg3 hb5
        have ho4 : w3.ownsRow w.heap.size 3 1 v2 (ns ++ [m]).length (i64s (ns ++ [m])) := by
          rw [i64s_app, List.length_append]; exact ho3
        have ho5 := (HO2.out.alloc (.cells #[.int .i64 (m : Int)] 3)).kept hg3 (own_apart (HO2.out.alloc _) (howt2.alloc (.cells #[.int .i64 (m : Int)] 3)) (by decide))
        have hb6 := (hb4.alloc hb4.size (.cells #[.int .i64 (m : Int)] 3)).trans hb5
        have HALL2 := Lib.hid (show ∀ q ∈ ns ++ [m], q < 1099511627776 from fun q hq => by
          rcases List.mem_append.1 hq with h | h
          · exact HALL.out q h
          · rw [List.mem_singleton.1 h]; exact hm)
        have HO5 := Lib.hid ho5
        have HO4 := Lib.hid ho4
        clear ho3 hg3 ho4 ho5 howt2 hb5
        go_wp2
        go_roundw
        case rel => exact ⟨k + 1, ns ++ [m], by go_num, by omega, by omega, by simp; omega, HALL2.out, HO5.out, HO4.out, hb6⟩
        case measure => simp [intOf]; omega
      · have HZ := Lib.hid (show z < 0 ∨ 1099511627776 ≤ z by omega)
        have HO5 := Lib.hid hown
        have HO4 := Lib.hid howt
        clear hz hown howt
        go_wp2_with fail
        refine (number_none z HZ.out _).mono ?_
        rintro e w1 ⟨rfl, rfl⟩
        go_wp2
        go_roundw
        case rel => exact ⟨k + 1, ns, by go_num, by omega, by omega, by omega, HALL.out, HO5.out, HO4.out, hb⟩
        case measure => simp [intOf]; omega
    · obtain ⟨Ab, cb, hvb, _, _⟩ := own_slice hown
      obtain ⟨At, ct, hvt, _, _⟩ := own_slice howt
      subst hvb; subst hvt
      have HB := Lib.hid (Has.own hown)
      have HT := Lib.hid (Has.own howt)
      clear hown howt
      obtain ⟨wo, hwo⟩ : ∃ wo : World, wo = wr := ⟨_, rfl⟩
      subst hwo
      by_cases hq : k < zs.length
      all_goals
        go_wp2_with fail
        go_loop [8, 47] (fun x y => RowsRel2 ns x y) (fun _ y => ns.length - (intOf y).toNat)
        case atStart => exact ⟨0, rfl, Nat.zero_le _, by simp [flat]⟩
        case round =>
          obtain ⟨j, rfl, hj2, rfl⟩ := hrel
          by_cases hlt : j < ns.length
          · obtain ⟨m, r, hd⟩ : ∃ m r, ns.drop j = m :: r := ⟨ns[j], ns.drop (j + 1), List.drop_eq_getElem_cons hlt⟩
            have hmem : m ∈ ns := List.mem_of_mem_drop (i := j) (by rw [hd]; exact List.mem_cons_self ..)
            have hf := flat_at hd (HALL.out m hmem)
            obtain ⟨ad, hA, hc⟩ := i64s_at HT.out hd
            subst hA
            have hlt2 := hf.2
            have HF := Lib.hid hf.1
            have hfl2 := flat_len (ns.take j) (fun q hq => HALL.out q (List.mem_of_mem_take hq))
            have hfl3 : (flat (ns.take j)).length ≤ 360 := by simp at hfl2; omega
            clear hf hd hfl2
            go_wp2_with fail
            refine (take_is HF.out rfl (by omega) (by omega) (flat_u8 ns) _ HB.out).mono ?_
            rintro e w2 ⟨rfl, rfl⟩
            go_wp2
            go_round
            case rel => exact ⟨j + 1, by go_num, by omega, rfl⟩
            case measure => simp [intOf]; omega
          · have hje : j = ns.length := by omega
            subst hje
            have HE := Lib.hid (show (ns.take ns.length) = ns from List.take_length)
            rw [HE.out]
            go_wp2_with fail
            refine (take_is (takeS_far (by omega)) rfl (by omega) (by omega) (flat_u8 ns) _ HB.out).mono ?_
            rintro e w2 ⟨rfl, rfl⟩
            go_wp2_with fail
            refine (wakes_any _).mono ?_
            rintro e w2 ⟨rfl, hb2⟩
            go_wp2_with fail
            go_ret
            exact ⟨rfl, hb.trans (hb2.mono hb.size)⟩
end Go.Proofs.Ytfjgcpeaghlcgaa
