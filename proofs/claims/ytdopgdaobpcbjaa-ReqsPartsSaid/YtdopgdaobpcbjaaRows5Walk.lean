/- The walk of ReqsRows: it returns true for any requests. (Asks for reqs' contracts as ReqLaws.) -/
import Derived.Test.YtdopgdaobpcbjaaReqLaws
import Derived.StillTailTactics
import Derived.IntWalk
namespace Go.Proofs.Ytdopgdaobpcbjaa
open Go.RowKit

theorem ris_at {l : List Rq} (h : Ris l) {j : Nat} {x y : Rq} (h1 : l[j]? = some x) (h2 : l[j + 1]? = some y) : cmpR x y < 0 := by
  obtain ⟨k1, e1⟩ := List.getElem?_eq_some_iff.1 h1
  obtain ⟨k2, e2⟩ := List.getElem?_eq_some_iff.1 h2
  have := List.pairwise_iff_getElem.1 h j (j + 1) k1 k2 (by omega)
  rwa [e1, e2] at this
theorem order_again (l : List Rq) : orderS (orderS l) = orderS l := (orderS_is (ris_order l).1 (fun _ => Iff.rfl)).symm
theorem has_there {l : List Rq} {r : Rq} (h : r ∈ l) : hasB l r = true := decide_eq_true h
theorem sameL_self {α : Type} [DecidableEq α] (l : List α) : sameL l l = true := decide_eq_true rfl

set_option maxRecDepth 100000 in
set_option maxHeartbeats 4000000 in
theorem reqsRows_walk (M : ReqLaws) (A : Option Addr) (c : Nat) (zs : List Rq) (w : World) (w0 : IsReqs w A zs c) :
    Calls Try.prog 10 #[.slice A zs.length c] w fun e w' => e = .returned (.bool true) ∧ Below w.heap.size w w' := by
  have HM := Lib.hid M
  have H0 := Lib.hid w0.has
  have HMx := Lib.hid (Nat.le_trans w0.le w0.most)
  clear M w0
  by_cases hm : 40 < zs.length
  · have hm2 := HMx.out
    unfold maxLen at hm2
    go_enter Try.func10, Try.ntmps10
    go_wp2_with fail
    refine (wakes5_any HM.out _).mono ?_
    rintro e w1 ⟨rfl, hb1⟩
    have HB1 := Lib.hid hb1
    clear hb1
    go_wp2_with fail
    go_ret
    exact ⟨rfl, HB1.out⟩
  · have hm1 : zs.length ≤ 40 := by omega
    have HO := Lib.hid (HM.out.order (c := c) H0.out rfl (by omega))
    obtain ⟨xs, hxs⟩ : ∃ xs, orderS zs = xs := ⟨_, rfl⟩
    have HRi := Lib.hid (show Ris xs by rw [← hxs]; exact (ris_order zs).1)
    have HMe := Lib.hid (show ∀ r, r ∈ xs ↔ r ∈ zs by rw [← hxs]; exact (ris_order zs).2)
    have HLn := Lib.hid (show xs.length ≤ 40 by rw [← hxs]; exact Nat.le_trans (orderS_len zs) hm1)
    have HAg := Lib.hid (show orderS xs = xs by rw [← hxs]; exact order_again zs)
    rw [hxs] at HO
    clear hm hxs
    go_enter Try.func10, Try.ntmps10
    go_wp2_with fail
    refine HO.out.mono ?_
    rintro e w1 ⟨v, rfl, ho1, hb1⟩
    obtain ⟨Ax, cx, rfl, hcx, hcx2⟩ := own_slice ho1
    have HX1 := Lib.hid (has_rows ho1)
    have HZ1 := Lib.hid (H0.out.below hb1 (Nat.le_refl _) |>.more hb1.size)
    have HB1 := Lib.hid hb1
    have hln := HLn.out
    obtain ⟨n, hn⟩ : ∃ n, xs.length = n := ⟨_, rfl⟩
    rw [hn] at hln hcx ⊢
    have HN := Lib.hid hn
    clear ho1 hb1 hn HO
    go_wp2_with fail
    go_loopw [4] (fun y wr => ∃ k : Nat, y = .int .i64 k ∧ 1 ≤ k ∧ k ≤ n + 1 ∧ Hid (Below w1.heap.size w1 wr)) (fun y _ => n - (intOf y).toNat)
    case atStart => exact ⟨1, rfl, Nat.le_refl _, by omega, Below.refl _ _⟩
    case round =>
      obtain ⟨k, rfl, hk1, hk, HW⟩ := hrel
      by_cases hlt : k < n
      · obtain ⟨j, rfl⟩ : ∃ j, k = j + 1 := ⟨k - 1, by omega⟩
        have HH := HX1.out.below HW.out (Nat.le_refl _)
        have hjl : j < xs.length := by rw [HN.out]; omega
        have hjl2 : j + 1 < xs.length := by rw [HN.out]; exact hlt
        obtain ⟨a1, rfl, _, c0, c1, c2, c3, c4, c5⟩ := HH.req hjl
        obtain ⟨a2, he, _, d0, d1, d2, d3, d4, d5⟩ := HH.req hjl2
        cases he
        have hlt0 : decide (cmpR xs[j] xs[j + 1] < 0) = true := decide_eq_true (ris_at HRi.out (List.getElem?_eq_getElem hjl) (List.getElem?_eq_getElem hjl2))
        obtain ⟨x, hx⟩ : ∃ x, xs[j] = x := ⟨_, rfl⟩
        obtain ⟨y, hy⟩ : ∃ y, xs[j + 1] = y := ⟨_, rfl⟩
        rw [hx] at c0 c1 c2 c3 c4 c5 hlt0
        rw [hy] at d0 d1 d2 d3 d4 d5 hlt0
        have hneg : cmpR x y < 0 := of_decide_eq_true hlt0
        have HC := Lib.hid (fun w => HM.out.compare x y w)
        obtain ⟨z, hz⟩ : ∃ z, cmpR x y = z := ⟨_, rfl⟩
        rw [hz] at HC hneg
        clear hx hy HH hlt0 hz hjl hjl2
        have hj1 : IntKind.i64.wrap (j : Int) = (j : Int) := IntWalk.i64_in _ (by omega)
        have hj2 : 0 ≤ (j : Int) + 1 := by omega
        have hj3 : ((j : Int) + 1).toNat = j + 1 := by omega
        have hj4 : (j : Int) + 1 < n := by omega
        have hj5 : j < n := by omega
        go_wp2_with fail
        go_still_tail 9, (by kernel_rfl)
        change wpList _ _ _ _ _ wr.drew
        clear hj1 hj2 hj3
        have HW1 := Lib.hid (show Below w1.heap.size w1 wr.drew from HW.out.trans ⟨rfl, rfl, rfl, Nat.le_refl _, fun _ _ => rfl⟩)
        go_wp2_with fail
        refine (HC.out _).mono ?_
        rintro e w2 ⟨rfl, hb2⟩
        have HW2 := Lib.hid (HW1.out.trans (hb2.mono HW1.out.size))
        clear hb2 HW1
        go_wp2_with fail
        go_roundw
        case rel => exact ⟨j + 1 + 1, by go_num, by omega, by omega, HW2.out⟩
        case measure => simp [intOf]; omega
      · have HW0 := Lib.hid HW.out
        clear HW
        go_wp2_with fail
        go_loopw [32] (fun y wr => ∃ i : Nat, y = .int .i64 i ∧ i ≤ zs.length ∧ Hid (Below w1.heap.size w1 wr)) (fun y _ => zs.length - (intOf y).toNat)
        case atStart => exact ⟨0, rfl, Nat.zero_le _, HW0.out⟩
        case round =>
          obtain ⟨i, rfl, hi, HW⟩ := hrel
          by_cases hlt2 : i < zs.length
          · obtain ⟨a1, rfl, _, c0, c1, c2, c3, c4, c5⟩ := (HZ1.out.below HW.out (Nat.le_refl _)).req hlt2
            have hin : zs[i] ∈ xs := (HMe.out _).2 (List.getElem_mem hlt2)
            obtain ⟨x, hx⟩ : ∃ x, zs[i] = x := ⟨_, rfl⟩
            rw [hx] at c0 c1 c2 c3 c4 c5 hin
            have HC := Lib.hid (HM.out.has (c := cx) (HX1.out.below HW.out (Nat.le_refl _)) HN.out (by omega) x)
            rw [has_there hin] at HC
            clear hx hin
            go_wp2_with fail
            refine HC.out.mono ?_
            rintro e w2 ⟨rfl, hb2⟩
            have HW2 := Lib.hid (HW.out.trans (hb2.mono HW.out.size))
            clear hb2
            go_wp2_with fail
            go_roundw
            case rel => exact ⟨i + 1, by go_num, by omega, HW2.out⟩
            case measure => simp [intOf]; omega
          · have HW3 := Lib.hid HW.out
            clear HW HW0
            go_wp2_with fail
            go_loopw [45] (fun y wr => ∃ i : Nat, y = .int .i64 i ∧ i ≤ n ∧ Hid (Below w1.heap.size w1 wr)) (fun y _ => n - (intOf y).toNat)
            case atStart => exact ⟨0, rfl, Nat.zero_le _, HW3.out⟩
            case round =>
              obtain ⟨j, rfl, hj, HW⟩ := hrel
              by_cases hlt3 : j < n
              · have hjl : j < xs.length := by rw [HN.out]; exact hlt3
                obtain ⟨a1, rfl, _, c0, c1, c2, c3, c4, c5⟩ := (HX1.out.below HW.out (Nat.le_refl _)).req hjl
                have hin : xs[j] ∈ zs := (HMe.out _).1 (List.getElem_mem hjl)
                obtain ⟨x, hx⟩ : ∃ x, xs[j] = x := ⟨_, rfl⟩
                rw [hx] at c0 c1 c2 c3 c4 c5 hin
                have HC := Lib.hid (HM.out.has (c := c) (HZ1.out.below HW.out (Nat.le_refl _)) rfl (by omega) x)
                rw [has_there hin] at HC
                clear hx hin hjl
                go_wp2_with fail
                refine HC.out.mono ?_
                rintro e w2 ⟨rfl, hb2⟩
                have HW2 := Lib.hid (HW.out.trans (hb2.mono HW.out.size))
                clear hb2
                go_wp2_with fail
                go_roundw
                case rel => exact ⟨j + 1, by go_num, by omega, HW2.out⟩
                case measure => simp [intOf]; omega
              · have HO2 := Lib.hid (HM.out.order (c := cx) (HX1.out.below HW.out (Nat.le_refl _)) HN.out (by omega))
                rw [HAg.out] at HO2
                go_wp2_with fail
                refine HO2.out.mono ?_
                rintro e w2 ⟨v2, rfl, ho2, hb2⟩
                obtain ⟨Ay, cy, rfl, _, _⟩ := own_slice ho2
                have HW2 := Lib.hid (HW.out.trans (hb2.mono HW.out.size))
                have HX2 := Lib.hid (HX1.out.below HW2.out (Nat.le_refl _))
                have HSm := Lib.hid (same_reqs Ay Ax cy cx xs xs _ w2 (by rw [HN.out]; omega) (has_rows ho2) (HX2.out.more HW2.out.size))
                rw [sameL_self, HN.out] at HSm
                rw [HN.out]
                clear ho2 hb2
                go_wp2_with fail
                refine HSm.out.mono ?_
                rintro e w3 ⟨rfl, m, rfl⟩
                have HSr := Lib.hid (HM.out.same (c := cx) (c' := cx) (HX2.out.drewN m) HN.out (by omega) (HX2.out.drewN m) HN.out)
                rw [sameL_self] at HSr
                go_wp2_with fail
                refine HSr.out.mono ?_
                rintro e w4 ⟨rfl, hb4⟩
                have HW4 := Lib.hid (show Below w1.heap.size w1 w4 from by
                  have h1 : Below w1.heap.size w1 (w2.drewN m) := HW2.out.trans ⟨rfl, rfl, rfl, Nat.le_refl _, fun _ _ => rfl⟩
                  exact h1.trans (hb4.mono h1.size))
                clear hb4
                go_wp2_with fail
                refine (wakes5_any HM.out _).mono ?_
                rintro e w5 ⟨rfl, hb5⟩
                have HW5 := Lib.hid (HW4.out.trans (hb5.mono HW4.out.size))
                clear hb5
                go_wp2_with fail
                go_ret
                exact ⟨rfl, HB1.out.trans (HW5.out.mono HB1.out.size)⟩
end Go.Proofs.Ytdopgdaobpcbjaa
