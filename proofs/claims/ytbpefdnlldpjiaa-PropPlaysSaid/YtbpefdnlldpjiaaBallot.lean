/- The contracts of ballot's Set, a field of bits: Put, Has, Len. -/
import Derived.Test.YtbpefdnlldpjiaaBallotNums
import Derived.Test.YtbpefdnlldpjiaaMask
import Derived.Deep.RegionLaw
import Derived.Deep.QuietTactic
import Derived.BigQuiet
namespace Go.Proofs.Ytbpefdnlldpjiaa
open Go.RowKit

theorem set_same {bs : List Bool} {n : Nat} {b : Bool} (h : bs[n]? = some b) : bs.set n b = bs := by
  apply List.ext_getElem?
  intro j
  by_cases hj : n = j
  · subst hj
    have hl : n < bs.length := (List.getElem?_eq_some_iff.1 h).1
    rw [h, List.getElem?_set_self hl]
  · rw [List.getElem?_set_ne hj]
/-- Only block g has changed, and what is new. -/
structure Only (g : Nat) (w w' : World) : Prop where
  os : w'.os = w.os
  tape : w'.tape = w.tape
  output : w'.output = w.output
  size : w.heap.size ≤ w'.heap.size
  block : ∀ k, k < w.heap.size → k ≠ g → w'.heap[k]? = w.heap[k]?
section
variable {g : Nat} {a b c : World}
theorem Only.refl (g : Nat) (w : World) : Only g w w := ⟨rfl, rfl, rfl, Nat.le_refl _, fun _ _ _ => rfl⟩
theorem Only.set_ (h : Only g a b) (i : Nat) (u : Value) : Only g a (b.setCell ⟨g, i, none⟩ u) :=
  ⟨h.os, h.tape, h.output, by simpa using h.size, fun k hk hg => (Below.heap_setCell b _ u k hg).trans (h.block k hk hg)⟩
theorem Only.drewN (h : Only g a b) (n : Nat) : Only g a (b.drewN n) := ⟨h.os, h.tape, h.output, h.size, h.block⟩
theorem Only.below {B : Nat} (h : Only g a b) (hB : B ≤ g) (hs : B ≤ a.heap.size) : Below B a b := ⟨h.os, h.tape, h.output, h.size, fun k hk => h.block k (by omega) (by omega)⟩
theorem Only.blk (h : Only g a b) {k : Nat} {t : TypeId} {cs : Array Value} (hb : Blk a k t cs) (hk : k ≠ g) : Blk b k t cs := (h.block k hb.lt hk).trans hb
end
/-- The nodes that the marks tell. -/
def marked (bs : List Bool) (k : Int) : Bool := decide (0 ≤ k ∧ k < 13) && (bs[k.toNat]? == some true)
def bitS (bs : List Bool) (k : Int) : List Bool := if 0 ≤ k ∧ k < 13 then bs.set k.toNat true else bs
/-- The set in block g holds the marked nodes. -/
structure SetIs (w : World) (g : Nat) (bs : List Bool) : Prop where
  len : bs.length = 13
  blk : Blk w g 68 #[.int .u16 (maskS bs : Nat)]
theorem SetIs.below {w w' : World} {g : Nat} {bs : List Bool} (h : SetIs w g bs) (hb : Below w.heap.size w w') : SetIs w' g bs := ⟨h.len, h.blk.below hb h.blk.lt⟩
theorem SetIs.drewN {w : World} {g : Nat} {bs : List Bool} (h : SetIs w g bs) (n : Nat) : SetIs (w.drewN n) g bs := ⟨h.len, h.blk.drewN n⟩
theorem SetIs.only {w w' : World} {g g' : Nat} {bs : List Bool} (h : SetIs w g bs) (ho : Only g' w w') (hg : g ≠ g') : SetIs w' g bs := ⟨h.len, ho.blk h.blk hg⟩
theorem SetIs.lt {w : World} {g : Nat} {bs : List Bool} (h : SetIs w g bs) : g < w.heap.size := h.blk.lt
def noMarks : List Bool := List.replicate 13 false
theorem SetIs.new (w : World) : SetIs (w.alloc (.cells #[.int .u16 0] 68)) w.heap.size noMarks := ⟨rfl, Blk.new _ _ _⟩

theorem shl_one {n : Nat} (h : n < 13) : IntKind.u16.wrap (1 * 2 ^ min n 16) = ((2 ^ n : Nat) : Int) := by
  have : ∀ n : Fin 13, IntKind.u16.wrap (1 * 2 ^ min n.val 16) = ((2 ^ n.val : Nat) : Int) := by decide
  exact this ⟨n, h⟩

theorem wrap_two {n : Nat} (h : n < 13) : IntKind.u16.wrap (2 ^ n) = ((2 ^ n : Nat) : Int) := by
  have := shl_one h
  rw [Int.one_mul, Nat.min_eq_left (by omega)] at this
  exact this
theorem two_16 {n : Nat} (h : n < 13) : 2 ^ n < 65536 := by
  have : ∀ n : Fin 13, 2 ^ n.val < 65536 := by decide
  exact this ⟨n, h⟩
theorem and_mask {m n : Nat} {b : Bool} (hm : m < 8192) (hn : n < 13) (h : m &&& 2 ^ n = if b then 2 ^ n else 0) : (bits .and .u16 (m : Int) (IntKind.u16.wrap (2 ^ n)) != 0) = b := by
  rw [wrap_two hn, u16_and_nat m (2 ^ n) (by omega) (two_16 hn), h]
  cases b
  · rfl
  · rw [if_pos rfl, bne_iff_ne]
    have := Nat.two_pow_pos n
    omega
theorem or_mask {bs : List Bool} {n : Nat} (hm : maskS bs < 8192) (hn : n < 13) (h : maskS bs ||| 2 ^ n = maskS (bs.set n true)) : bits .or .u16 (maskS bs : Nat) (IntKind.u16.wrap (2 ^ n)) = (maskS (bs.set n true) : Nat) := by
  rw [wrap_two hn, u16_or_nat _ (2 ^ n) (by omega) (two_16 hn), h]

set_option maxHeartbeats 1000000 in
theorem has_any {w : World} {g : Nat} {bs : List Bool} (h : SetIs w g bs) (k : Int) :
    Calls Try.prog 32 #[.pointer (some ⟨g, 0, none⟩), .int .i64 k] w fun e w' => e = .returned (.bool (marked bs k)) ∧ ∃ m, w' = w.drewN m := by
  by_cases hk : 0 ≤ k ∧ k < 13
  · obtain ⟨n, rfl⟩ := Int.eq_ofNat_of_zero_le hk.1
    have hn : n < 13 := by omega
    obtain ⟨b, hb⟩ := got (l := bs) (k := n) (by rw [h.len]; exact hn)
    have hc : w.cell? ⟨g, 0, none⟩ = some (.int .u16 (maskS bs : Nat)) := h.blk.cell 0
    rw [show marked bs (n : Int) = b by unfold marked; rw [decide_eq_true hk]; show (true && (bs[n]? == some true)) = b; rw [hb]; cases b <;> rfl]
    have HM := Lib.hid (mask_and hb)
    have HL := Lib.hid (mask_13 h.len)
    have t1 : decide ((n : Int) ≤ 12) = true := decide_eq_true (by omega)
    clear h hk hb
    go_enter Try.func32, Try.ntmps32
    go_wp2
    go_quiet (fail)
    go_wp2
    go_ret
    exact ⟨congrArg (fun x => Ending.returned (.bool x)) (and_mask HL.out hn HM.out), nq, rfl⟩
  · rw [show marked bs k = false by unfold marked; rw [decide_eq_false hk]; rfl]
    rcases (show k < 0 ∨ (0 ≤ k ∧ 13 ≤ k) by omega) with h1 | ⟨h1, h2⟩
    · have t0 : decide (0 ≤ k) = false := decide_eq_false (by omega)
      clear hk h
      go_enter Try.func32, Try.ntmps32
      go_wp2
      go_quiet (fail)
      go_wp2
      go_ret
      exact ⟨rfl, nq, rfl⟩
    · have t0 : decide (0 ≤ k) = true := decide_eq_true h1
      have t1 : decide (k ≤ 12) = false := decide_eq_false (by omega)
      clear hk h
      go_enter Try.func32, Try.ntmps32
      go_wp2
      go_quiet (fail)
      go_wp2
      go_ret
      exact ⟨rfl, nq, rfl⟩

set_option maxHeartbeats 1000000 in
theorem put_any {w : World} {g : Nat} {bs : List Bool} (h : SetIs w g bs) (k : Int) :
    Calls Try.prog 46 #[.pointer (some ⟨g, 0, none⟩), .int .i64 k] w fun e w' => e = .returned (.bool (decide (0 ≤ k ∧ k < 13) && !marked bs k)) ∧ SetIs w' g (bitS bs k) ∧ Only g w w' := by
  have HH := Lib.hid (has_any h k)
  by_cases hk : 0 ≤ k ∧ k < 13
  · obtain ⟨n, rfl⟩ := Int.eq_ofNat_of_zero_le hk.1
    have hn : n < 13 := by omega
    obtain ⟨b, hb⟩ := got (l := bs) (k := n) (by rw [h.len]; exact hn)
    have hc : w.cell? ⟨g, 0, none⟩ = some (.int .u16 (maskS bs : Nat)) := h.blk.cell 0
    have hf := h.blk.frozen 0
    have HM := Lib.hid (show marked bs (n : Int) = b by unfold marked; rw [decide_eq_true hk]; show (true && (bs[n]? == some true)) = b; rw [hb]; cases b <;> rfl)
    have HP := Lib.hid (show bitS bs (n : Int) = bs.set n true by unfold bitS; rw [if_pos hk]; rfl)
    have HS := Lib.hid h
    have HK := Lib.hid (show decide (0 ≤ (n : Int) ∧ (n : Int) < 13) = true from decide_eq_true hk)
    have HO := Lib.hid (or_mask (mask_13 h.len) hn (mask_or (by rw [h.len]; exact hn)))
    rw [HM.out] at HH
    rw [HM.out, HK.out]
    have HB := Lib.hid hb
    clear h hk hb
    cases b
    · go_enter Try.func46, Try.ntmps46
      go_wp2_with fail
      refine HH.out.mono ?_
      rintro e w' ⟨rfl, m, rfl⟩
      go_wp2_with fail
      go_region_law (fail)
      go_wp2
      go_ret
      refine ⟨rfl, ?_, ((Only.refl g w).drewN _).set_ 0 _⟩
      rw [HP.out]
      refine ⟨by rw [List.length_set]; exact HS.out.len, ?_⟩
      rw [HO.out]
      exact (HS.out.blk.drewN _).set_ 0 (.int .u16 (maskS (bs.set n true) : Nat))
    · go_enter Try.func46, Try.ntmps46
      go_wp2_with fail
      refine HH.out.mono ?_
      rintro e w' ⟨rfl, m, rfl⟩
      go_wp2_with fail
      go_ret
      refine ⟨rfl, ?_, (Only.refl g w).drewN m⟩
      rw [HP.out, set_same HB.out]
      exact HS.out.drewN m
  · have HP := Lib.hid (show bitS bs k = bs by unfold bitS; rw [if_neg hk])
    have HK := Lib.hid (show decide (0 ≤ k ∧ k < 13) = false from decide_eq_false hk)
    rw [HK.out, HP.out]
    have HS := Lib.hid h
    have hor : k < 0 ∨ (0 ≤ k ∧ 13 ≤ k) := by omega
    clear hk h
    rcases hor with h1 | ⟨h1, h2⟩
    all_goals
      go_enter Try.func46, Try.ntmps46
      go_wp2
      go_ret
      exact ⟨rfl, HS.out, Only.refl g w⟩

theorem pop_is {n : Nat} (h : n < 256) : Lib.pop8 (n : Int) = (Lib.onesCount n : Int) ∧ Lib.onesCount n ≤ 8 := ⟨Lib.pop8_eq ⟨n, h⟩, Lib.onesCount_le8 ⟨n, h⟩⟩
theorem pops {m : Nat} (h : m < 8192) : (Lib.pop8 ((m : Int) / 256) + Lib.pop8 ((m : Int) % 256)) % 256 = ((Lib.onesCount (m / 256) + Lib.onesCount (m % 256) : Nat) : Int) := by
  obtain ⟨h1, h2⟩ := pop_is (n := m / 256) (by omega)
  obtain ⟨h3, h4⟩ := pop_is (n := m % 256) (by omega)
  rw [show (m : Int) / 256 = ((m / 256 : Nat) : Int) by omega, show (m : Int) % 256 = ((m % 256 : Nat) : Int) by omega, h1, h3]
  omega
set_option maxRecDepth 100000 in
theorem ones_any {m : Nat} (h : m < 8192) (w : World) :
    Calls Try.prog 56 #[.int .u16 (m : Nat)] w fun e w' => e = .returned (.int .i64 ((Lib.onesCount (m / 256) + Lib.onesCount (m % 256) : Nat) : Int)) ∧ ∃ n, w' = w.drewN n := by
  have h1 : 0 ≤ (m : Int) / 256 := by omega
  have h2 : (m : Int) / 256 ≤ 255 := by omega
  have h3 : bits .and .u16 (m : Int) 255 = (m : Int) % 256 := by
    have := u16_and_nat m 255 (by omega) (by omega)
    rw [show m &&& 255 = m % 256 from Nat.and_two_pow_sub_one_eq_mod m 8] at this
    simpa using this
  go_enter Try.func56, Try.ntmps56
  go_wp2
  conv in (occs := *) (ByteArray.mk _) => all_goals change Lib.pop8tab
  go_quiet (fail)
  go_wp2
  go_ret
  exact ⟨congrArg (fun x => Ending.returned (.int .i64 x)) (pops h), nq, rfl⟩

theorem len_any {w : World} {g : Nat} {bs : List Bool} (h : SetIs w g bs) : Calls Try.prog 47 #[.pointer (some ⟨g, 0, none⟩)] w fun e w' => e = .returned (.int .i64 (cnt bs)) ∧ ∃ m, w' = w.drewN m := by
  have hc : w.cell? ⟨g, 0, none⟩ = some (.int .u16 (maskS bs : Nat)) := h.blk.cell 0
  have HO := Lib.hid (ones_any (mask_13 h.len))
  rw [mask_ones h.len] at HO
  clear h
  go_enter Try.func47, Try.ntmps47
  go_wp2_with fail
  refine (HO.out _).mono ?_
  rintro e w' ⟨rfl, n, rfl⟩
  go_wp2_with fail
  go_ret
  exact ⟨rfl, n, rfl⟩
end Go.Proofs.Ytbpefdnlldpjiaa
