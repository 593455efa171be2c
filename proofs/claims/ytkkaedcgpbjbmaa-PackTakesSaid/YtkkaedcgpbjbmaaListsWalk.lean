/- The walk of PackLists: it returns true for any requests. -/
import Derived.Test.YtkkaedcgpbjbmaaWakeB
import Derived.Test.YtkkaedcgpbjbmaaOpens
namespace Go.Proofs.Ytkkaedcgpbjbmaa
open Go.RowKit

theorem own_nil {w : World} {base n c s : Nat} {e : TypeId} {A : Option Addr} {xs : List Value} (h : w.ownsRow base e s (.slice A n c) n xs) : A = none → c = 0 := by
  rintro rfl
  rcases h.2 with ⟨h1, _⟩ | ⟨g, cap, cur, h1, _⟩
  · injection h1
  · cases h1
theorem own_slice_caps {w : World} {base n c : Nat} {e : TypeId} {size : Nat} {A : Option Addr} {xs : List Value} (h : w.ownsRow base e size (.slice A n c) n xs) : n ≤ c ∧ c ≤ maxLen := by
  obtain ⟨A', c', hv, h1, h2⟩ := own_slice h
  injection hv with _ _ hc
  omega
theorem bytesOf_codes {ts : List Tok} {bs : List Int} (h : bytesOf ts = some bs) : ∃ ns, codes ts = some ns ∧ bs = flat ns := by
  simp only [bytesOf, Option.map_eq_some_iff] at h
  obtain ⟨ns, h1, h2⟩ := h
  exact ⟨ns, h1, h2.symm⟩
theorem bytesOf_none {ts : List Tok} (h : bytesOf ts = none) : codes ts = none := by
  simpa [bytesOf] using h
/-- What holds at the loop's head: so many requests' bytes have been gathered. -/
def ListsRel (l : List Rq) (w : World) (v x : Value) (wr : World) : Prop :=
  ∃ (k : Nat) (ns : List Nat), x = .int .i64 k ∧ k ≤ l.length ∧ codes (.len l.length :: (l.take k).flatMap Rq.toks) = some ns ∧ wr.ownsRow w.heap.size 5 1 v (flat ns).length (u8s (flat ns)) ∧ Below w.heap.size w wr
theorem lists_bound {l : List Rq} {k : Nat} {ns : List Nat} (hk : k ≤ l.length) (h : codes (.len l.length :: (l.take k).flatMap Rq.toks) = some ns) : (flat ns).length ≤ 6 + 36 * l.length := by
  have h1 := flat_len ns (codes_small h)
  rw [codes_len h] at h1
  have h2 : ((l.take k).flatMap Rq.toks).length = (l.take k).length * 6 := flatMap_len (s := 6) (f := Rq.toks) (fun _ => rfl) _
  have h3 : (l.take k).length ≤ l.length := by rw [List.length_take]; omega
  simp only [List.length_cons] at h1
  omega
theorem toks_len (l : List Rq) : (listToks Rq.toks l).length = 1 + 6 * l.length := by
  have h2 : (l.flatMap Rq.toks).length = l.length * 6 := flatMap_len (s := 6) (f := Rq.toks) (fun _ => rfl) _
  simp [listToks, h2]; omega

set_option maxHeartbeats 1000000 in
set_option maxRecDepth 100000 in
theorem packLists_walk (A : Option Addr) (c : Nat) (l : List Rq) (w : World) (w0 : IsReqs w A l c) :
    Calls Try.prog 3 #[.slice A l.length c] w fun e w' => e = .returned (.bool true) ∧ Below w.heap.size w w' := by
  have hcap := w0.le
  have hmost := w0.most
  unfold maxLen at hmost
  have HH := Lib.hid w0.has
  clear w0
  obtain ⟨i0, hi, hz0, hz1, hz2⟩ := info_parts Try.info5
  by_cases hlen : 60 < l.length
  · go_enter Try.func3, Try.ntmps3
    go_wp2_with fail
    refine (wakes_any _).mono ?_
    rintro e w2 ⟨rfl, hb2⟩
    go_wp2_with fail
    go_ret
    exact ⟨rfl, hb2⟩
  · have hle : l.length ≤ 60 := by omega
    have HT := Lib.hid (toks_len l)
    go_enter Try.func3, Try.ntmps3
    go_wp2_with fail
    refine (number_own l.length (by omega) _).mono ?_
    rintro e w1 ⟨v1, rfl, ho1, hb1⟩
    have HR := Lib.hid (show ListsRel l w v1 (.int .i64 0) w1 from ⟨0, [l.length], rfl, Nat.zero_le _, codes_one (code_len.2 ⟨rfl, by omega⟩), by simpa [flat] using ho1, hb1⟩)
    clear ho1
    go_wp2_with fail
    go_loopw [3, 24] (fun v x wr => ListsRel l w v x wr) (fun _ x _ => l.length - (intOf x).toNat)
    case atStart => exact HR.out
    case round =>
      obtain ⟨k, ns, rfl, hk, hcd, hown, hb⟩ := hrel
      have hfl := lists_bound hk hcd
      have HC := Lib.hid hcd
      have hbs := hb.size
      clear hcd
      by_cases hlt : k < l.length
      · obtain ⟨ad, rfl, hab, h0, h1, h2, h3, h4, h5⟩ := (HH.out.below hb (Nat.le_refl _)).req hlt
        obtain ⟨r, hr⟩ : ∃ r, l[k] = r := ⟨_, rfl⟩
        rw [hr] at h0 h1 h2 h3 h4 h5
        have HR := Lib.hid hr
        clear hr
        go_wp2_with fail
        refine (pack_req r _).mono ?_
        rintro e w2 ⟨hb2, ⟨bs, A2, c2, hbo, rfl, ho2⟩ | ⟨hbo, rfl⟩⟩
        · obtain ⟨na, hca, hbe⟩ := bytesOf_codes hbo
          have hbl := bytesOf_len hbo
          rw [show r.toks.length = 6 from rfl] at hbl
          have hown1 := below_own hown hb2 (Nat.le_refl _)
          have hb3 := hb.trans (hb2.mono hb.size)
          have HO := Lib.hid (Has.own ho2)
          have HNil := Lib.hid (own_nil ho2)
          have HBE := Lib.hid hbe
          have HCA := Lib.hid hca
          clear hbo hbe hca ho2 hown h0 h1 h2 h3 h4 h5
          go_wp2_with (at_builtin; refine wpList_app rfl (.tmp 52) (.tmp 53) 24 rfl w.heap.size 5 i0 (.int .u8 0) 1 Try.underlying24 hi hz0 hz1 hz2 rfl _ _ _ rfl hown1 _ A2 bs.length c2 (u8s bs) rfl (u8s_len _) HO.out HNil.out (u8s_one _) (by unfold maxLen; omega) (by omega) hb3.size ?_)
          intro v2 w3 ho3 hg3 hb4
          have hb5 := hb3.trans hb4
          have HX : Hid (ListsRel l w v2 (.int .i64 ((k + 1 : Nat) : Int)) w3) := ⟨k + 1, ns ++ na, rfl, hlt, by rw [put_more hlt, HR.out]; exact codes_app_some HC.out HCA.out, by
            rw [flat_app, ← HBE.out, u8s_app, List.length_append]; exact ho3, hb5⟩
          clear ho3 hg3 hown1
          go_wp2
          go_roundw
          case rel => exact HX.out
          case measure => simp [intOf]; omega
        · have HCN := Lib.hid (show bytesOf (listToks Rq.toks l) = none by
            simp only [bytesOf, Option.map_eq_none_iff]
            rw [put_split hlt, HR.out]
            exact codes_app_none2 (codes_app_none1 (bytesOf_none hbo)))
          have hb3 := hb.trans (hb2.mono hb.size)
          have HH2 := Lib.hid ((HH.out.below hb3 (Nat.le_refl _)).more hb3.size)
          clear hbo hown h0 h1 h2 h3 h4 h5
          go_wp2_with fail
          refine (pack_batch l (some ad) c _ HH2.out (by have := HT.out; omega)).mono ?_
          rintro e w3 ⟨hb4, ⟨bs, A2, c2, hbo, rfl, ho2⟩ | ⟨hbo, rfl⟩⟩
          · exact absurd (HCN.out.symm.trans hbo) (by simp)
          · clear hbo
            go_wp2_with fail
            refine (wakes_any _).mono ?_
            rintro e w4 ⟨rfl, hb5⟩
            go_wp2_with fail
            go_ret
            exact ⟨rfl, (hb3.trans (hb4.mono hb3.size)).trans (hb5.mono (by have := hb3.size; have := hb4.size; omega))⟩
      · have hke : k = l.length := by omega
        have HB := Lib.hid (show bytesOf (listToks Rq.toks l) = some (flat ns) by
          have := HC.out
          rw [List.take_of_length_le (by omega)] at this
          simp [bytesOf, listToks, this])
        obtain ⟨Ab, cb, hvb, _, _⟩ := own_slice hown
        subst hvb
        have HO := Lib.hid (Has.own hown)
        have HH2 := Lib.hid ((HH.out.below hb (Nat.le_refl _)).more hb.size)
        clear hown hke
        go_wp2_with fail
        refine (pack_batch l A c _ HH2.out (by have := HT.out; omega)).mono ?_
        rintro e w3 ⟨hb4, ⟨bs, A2, c2, hbo, rfl, ho2⟩ | ⟨hbo, rfl⟩⟩
        · have hbe : bs = flat ns := Option.some.inj (hbo.symm.trans HB.out)
          subst hbe
          have HO2 := Lib.hid (Has.own ho2)
          have HO1 := Lib.hid ((HO.out.below hb4 (Nat.le_refl _)).more hb4.size)
          clear hbo ho2
          go_wp2_with fail
          refine (same_is rfl rfl (by omega) (show sameB (flat ns) (flat ns) = true by simp [sameB]) _ HO2.out HO1.out).mono ?_
          rintro e w4 ⟨rfl, nq, rfl⟩
          go_wp2_with fail
          refine (wakes_any _).mono ?_
          rintro e w5 ⟨rfl, hb5⟩
          go_wp2_with fail
          go_ret
          exact ⟨rfl, (hb.trans (hb4.mono hb.size)).trans ((below_drewN (Below.refl _ _) _).trans (hb5.mono (by have := hb.size; have := hb4.size; simp; omega)))⟩
        · exact absurd (HB.out.symm.trans hbo) (by simp)
end Go.Proofs.Ytkkaedcgpbjbmaa
