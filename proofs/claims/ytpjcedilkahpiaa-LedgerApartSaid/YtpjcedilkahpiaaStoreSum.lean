/- Package store: the sum over the map. -/
import Derived.Test.YtpjcedilkahpiaaStore
import Derived.Maps.RangeWalk
namespace Go.Proofs.Ytpjcedilkahpiaa
open Go.RowKit Go.Maps

/-- What is still to come. -/
def Kv.keep (V : Kv) (left : Lit → Bool) : Kv := fun q => if left (.int .i64 q) then V q else none
theorem Kv.Ok.keep {V : Kv} (h : V.Ok) (left : Lit → Bool) : (V.keep left).Ok := fun q u hq => by
  unfold Kv.keep at hq
  split at hq
  · exact h q u hq
  · cases hq
theorem Kv.sumTo_del {V : Kv} {k : Nat} : ∀ n : Nat, (V.del (k : Int)).sumTo n = if k < n then V.sumTo n - V.val k else V.sumTo n
  | 0 => by simp [Kv.sumTo]
  | n + 1 => by
    have h1 := Kv.sumTo_del (V := V) (k := k) n
    unfold Kv.sumTo
    by_cases e : k = n
    · subst e
      have h2 : (V.del (k : Int)).val k = 0 := by unfold Kv.val; rw [Kv.del_same]; rfl
      rw [h1, if_neg (Nat.lt_irrefl k), if_pos (Nat.lt_succ_self k), h2]
      omega
    · have h2 : (V.del (k : Int)).val n = V.val n := by unfold Kv.val; rw [Kv.del_other _ (by omega)]
      rw [h1, h2]
      by_cases hk : k < n
      · rw [if_pos hk, if_pos (by omega)]; omega
      · rw [if_neg hk, if_neg (by omega)]
theorem Kv.sumTo_new : ∀ n : Nat, Kv.new.sumTo n = 0
  | 0 => rfl
  | n + 1 => by unfold Kv.sumTo; rw [Kv.sumTo_new n]; rfl
theorem kstruck (left : Lit → Bool) {x p : Int} (hx : fit x) : (left (.int .i64 p) && !(Lit.int .i64 p).sameKey (.int .i64 x)) = if p = x then false else left (.int .i64 p) := by
  by_cases e : p = x
  · subst e
    rw [if_pos rfl, WideAt.sameKey_self (kint_law.key (kint_key hx))]
    simp
  · rw [if_neg e, sameKey_ne (fun he => e (by injection he))]
    simp
theorem Kv.keep_next (V : Kv) (left : Lit → Bool) {x : Int} (hx : fit x) : V.keep (fun z => left z && !z.sameKey (.int .i64 x)) = (V.keep left).del x := by
  funext q
  show (if (left (.int .i64 q) && !(Lit.int .i64 q).sameKey (.int .i64 x)) = true then V q else none) = if q = x then none else V.keep left q
  rw [kstruck left hx]
  by_cases e : q = x
  · rw [if_pos e, if_pos e]; rfl
  · rw [if_neg e, if_neg e]; rfl
theorem Kv.keep_start {D : DataW Unit} {V : Kv} (h : KTells D V) (ho : V.Ok) : V.keep (Maps.has D) = V := by
  funext q
  unfold Kv.keep
  cases hV : V q with
  | none => simp
  | some u => rw [h.has q (kfit (ho q u hV).1), hV]; rfl
theorem Kv.keep_end (V : Kv) {left : Lit → Bool} (h : ∀ k, left k = false) : V.keep left = Kv.new := by
  funext q
  unfold Kv.keep
  rw [h]
  rfl
theorem KTells.is {D : DataW Unit} {V : Kv} (h : KTells D V) {x c : Int} (hx : fit x) (hat : ∀ zd, D.atKey (.int .i64 x) zd = .lit (.int .i64 c)) : V x = some c := by
  have h1 := has_true_of_atKey hat
  rw [h.has x hx] at h1
  cases hS : V x with
  | none => rw [hS] at h1; cases h1
  | some f =>
    have h2 := h.at_ x f hS (.lit (.int .i64 0))
    rw [hat] at h2
    injection h2 with h2
    injection h2 with _ h2
    rw [h2]
/-- While the map is ranged over. -/
structure Sm (w : World) (bm r N : Nat) (D : DataW Unit) (V : Kv) (acc : Int) (cnt : Nat) (wr : World) : Prop where
  ex : ∃ left, wr.ranges Try.prog 3 (plainElem Try.prog 3) bm r N D left cnt ∧ acc + (V.keep left).sum = V.sum
  low : Below w.heap.size w wr
set_option maxHeartbeats 1000000 in
set_option maxRecDepth 100000 in
theorem ssum_any {w : World} {sb bm N : Nat} {V : Kv} (h : St w sb bm N V) :
    Calls Try.prog 53 #[.pointer (some ⟨sb, 0, none⟩)] w fun e w' => e = .returned (.int .i64 V.sum) ∧ Below w.heap.size w w' := by
  have HC := Lib.hid h
  have hc0 := h.blk.cell 0
  simp only [List.getElem?_toArray, List.getElem?_cons_zero] at hc0
  obtain ⟨D, hD, hT⟩ := h.map
  have HD := Lib.hid hD
  have HT := Lib.hid hT
  clear h hD hT
  go_enter Try.func53, Try.ntmps53
  go_wp2_with (first
    | (at_range; refine wpList_range_own _ rfl _ 78 rfl 3 3 kint_law Try.underlying78 _ bm N D rfl HD.out ?_; intro w0 hrg0 hg0 hs0)
    | fail)
  go_frame
  have HS0 := Lib.hid (show Sm w bm w.heap.size N D V 0 (Maps.size D) w0 from ⟨⟨_, hrg0, by rw [Kv.keep_start HT.out HC.out.ok]; omega⟩, (Below.refl _ _).grown hg0 (Nat.le_refl _) (fun k hk => by cases hk)⟩)
  clear hrg0 hg0 hs0
  go_loopw [3] (fun v wr => ∃ (cnt : Nat) (acc : Int), v = .int .i64 acc ∧ Hid (Sm w bm w.heap.size N D V acc cnt wr)) (fun _ wr => wr.rangeLeft bm w.heap.size)
  case atStart => exact ⟨_, 0, rfl, HS0⟩
  case round =>
    obtain ⟨cnt, acc, rfl, HS⟩ := hrel
    obtain ⟨left, hrg, hsum⟩ := HS.out.ex
    have HLow := Lib.hid HS.out.low
    have HRg := Lib.hid hrg
    have HSum := Lib.hid hsum
    clear HS hrg hsum
    go_wp2_with (first
      | (at_next; refine wpList_next_ranges_ii _ rfl _ rfl 3 3 .i64 .i64 kint_law Try.underlying3 Try.underlying3 bm w.heap.size N _ _ _ rfl HRg.out ?_ ?_)
      | fail)
    · intro hz hl0
      have HE := Lib.hid (show acc = V.sum from by
        have := HSum.out
        rw [Kv.keep_end V hl0] at this
        unfold Kv.sum at *
        rw [Kv.sumTo_new] at this
        omega)
      clear HRg hl0 hz
      go_wp2_with fail
      go_ret
      exact ⟨by rw [HE.out]; rfl, HLow.out⟩
    · intro x c w1 cnt1 hwx hwc hlx hat hrg1 hlt hg1 hs1 hen
      have HB1 := Lib.hid (HLow.out.grown hg1 HLow.out.size (fun k hk => by cases hk; exact Nat.le_refl _))
      have HRg1 := Lib.hid hrg1
      have hV := HT.out.is hwx hat
      have hkc := HC.out.ok x c hV
      have hin0 := Kv.sumTo_in HC.out.ok 64
      have hin1 := Kv.sumTo_in (HC.out.ok.keep left) 64
      have hin2 := Kv.sumTo_in (HC.out.ok.keep (fun z => left z && !z.sameKey (.int .i64 x))) 64
      have hs := HSum.out
      have hnext : (V.keep (fun z => left z && !z.sameKey (.int .i64 x))).sumTo 64 = (V.keep left).sumTo 64 - c := by
        obtain ⟨k, rfl⟩ := Int.eq_ofNat_of_zero_le hkc.1.1
        rw [Kv.keep_next V left hwx, Kv.sumTo_del, if_pos (by omega)]
        have : (V.keep left).val (k : Int) = c := by unfold Kv.val Kv.keep; rw [if_pos hlx, hV]; rfl
        rw [this]
      unfold Kv.sum at hs
      have hwr : IntKind.i64.wrap (acc + c) = acc + c := IntWalk.i64_in _ ⟨by omega, by omega⟩
      have hw6 : wrap64 (acc + c) = acc + c := IntWalk.wrap64_in _ ⟨by omega, by omega⟩
      have HS3 := Lib.hid (show Sm w bm w.heap.size N D V (acc + c) cnt1 w1 from ⟨⟨_, HRg1.out, by unfold Kv.sum; omega⟩, HB1.out⟩)
      have HM1 := Lib.hid (show w1.rangeLeft bm w.heap.size < wr.rangeLeft bm w.heap.size by rw [HRg1.out.left_eq, HRg.out.left_eq]; exact hlt)
      clear hs1 hg1 hat hrg1 hwx hlx hwc hV hkc hin0 hin1 hin2 hs hnext
      go_wp2_with fail
      go_roundw
      case rel => exact ⟨_, _, rfl, HS3⟩
      case measure => exact HM1.out
end Go.Proofs.Ytpjcedilkahpiaa
