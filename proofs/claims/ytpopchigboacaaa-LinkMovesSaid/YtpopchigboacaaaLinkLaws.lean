/- The law's own filled and wakes; bytes that are kept. -/
import Derived.Test.YtpopchigboacaaaQueue4
import Derived.Test.YtpopchigboacaaaWithin
import Derived.Test.YtpopchigboacaaaSame
namespace Go.Proofs.Ytpopchigboacaaa
open Go.RowKit Go.Sort

theorem Bytes.kept {Z : Nat → Prop} {w w' : World} {g : Nat} {z : List Int} (h : Bytes w g z) (ht : Turn Z w w') (hz : ¬ Z g) : Bytes w' g z := by
  have hb := ht.block g h.lt hz
  obtain ⟨cs, fr, hr⟩ := h.row
  refine ⟨ht.has h.has (fun ad e => by cases e; exact hz), fun j hj => ?_, cs, fr, hb.trans hr⟩
  exact (World.frozen?_of_block hb).trans (h.soft j hj)
theorem Bytes.below {w w' : World} {g : Nat} {z : List Int} (h : Bytes w g z) (hb : Below w.heap.size w w') : Bytes w' g z := h.kept (Turn.of_below (Z := fun _ => False) hb) id
theorem Bytes.not_q {R : Nat → Prop} {w : World} {g : Nat} {z : List Int} (h : Bytes w g z) : ¬ QZ R w g := by
  obtain ⟨cs, fr, hr⟩ := h.row
  rintro ⟨_, cs', fr', t, he, ht⟩
  rw [hr] at he
  injection he with he
  injection he with _ he _
  subst he
  exact ht.elim (by decide) (by decide)
theorem Turn.low {R : Nat → Prop} {w wx wy : World} (h : Turn (QZ R wx) wx wy) (hs : w.heap.size ≤ wx.heap.size) (hR : ∀ k, k < w.heap.size → ¬ R k) : Below w.heap.size wx wy := h.below hs (fun k hk hz => hR k hk hz.1)
/-- The queue's list that filled makes. -/
def fillL (n : Nat) : List (List Int) := (List.range n).map fun i : Nat => [(i : Int)]
theorem fillL_len (n : Nat) : (fillL n).length = n := by simp [fillL]
theorem fillL_next (n : Nat) : fillL n ++ [[(n : Int)]] = fillL (n + 1) := by simp [fillL, List.range_succ]
theorem fillL_get {n k : Nat} (h : k < (fillL n).length) : (fillL n)[k] = [(k : Int)] := by simp [fillL]
theorem by_one {k : Nat} (h : k < 256) : By [(k : Int)] := ⟨by simp, fun x hx => by rw [List.mem_singleton.1 hx]; omega⟩
theorem qu_low {w wx : World} {qb : Nat} {room lost : Int} {L : List (List Int)} (h : Qu (fun k => w.heap.size ≤ k ∨ wx.heap.size ≤ k) wx qb room lost L) (hs : w.heap.size ≤ wx.heap.size) : Qu (fun k => w.heap.size ≤ k) wx qb room lost L :=
  h.mono (fun _ _ hk => hk.elim id (fun h => Nat.le_trans hs h))
theorem qu_low2 {w wx wy : World} {qb : Nat} {room lost : Int} {L : List (List Int)} (h : Qu (fun k => w.heap.size ≤ k ∨ wx.heap.size ≤ k) wy qb room lost L) (hs : w.heap.size ≤ wx.heap.size) : Qu (fun k => w.heap.size ≤ k) wy qb room lost L :=
  h.mono (fun _ _ hk => hk.elim id (fun h => Nat.le_trans hs h))
set_option maxHeartbeats 1000000 in
set_option maxRecDepth 100000 in
theorem wakes7_any (w : World) : Calls Try.prog 15 #[] w fun e w' => e = .returned (.bool true) ∧ Below w.heap.size w w' := by
  go_enter Try.func15, Try.ntmps15
  go_wp2_with fail
  refine (qnew_any (room := 1) (by omega) (by omega) w).mono ?_
  rintro e w1 ⟨rfl, hq, hb⟩
  obtain ⟨qb, hqb⟩ : ∃ qb, w.heap.size = qb := ⟨_, rfl⟩
  have HB := Lib.hid hb
  have HP := Lib.hid (qpush_in (n := 1) (c := 1) (w := w1.alloc (.cells #[.int .u8 1] 5)) (hq.below ((Below.refl _ w1).alloc (Nat.le_refl _) _)) (by simp) (Has.fresh w1 #[.int .u8 1] 5 : Has _ _ _ (u8s [1])) rfl (by_one (k := 1) (by omega)))
  rw [hqb] at HP ⊢
  clear hq hb
  go_wp2_with fail
  refine HP.out.mono ?_
  rintro e w2 ⟨rfl, hq2, ht2⟩
  have hq3 := hq2.below ((Below.refl _ w2).alloc (Nat.le_refl _) (.cells #[.int .u8 2] 5))
  have HP2 := Lib.hid (qpush_out (A := some ⟨w2.heap.size, 0, none⟩) (n := 1) (c := 1) hq3 (by omega) (by omega) (Or.inl (by simp)))
  have HT2 := Lib.hid ht2
  clear hq2 ht2 hq3
  go_wp2_with fail
  refine HP2.out.mono ?_
  rintro e w3 ⟨rfl, hq4, ht4⟩
  have HL := Lib.hid (qlost_any hq4)
  have HN := Lib.hid (qlen_any hq4)
  have HT4 := Lib.hid ht4
  clear hq4 ht4
  go_wp2_with fail
  refine HL.out.mono ?_
  rintro e w4 ⟨rfl, rfl⟩
  go_wp2_with fail
  refine HN.out.mono ?_
  rintro e w4 ⟨rfl, rfl⟩
  go_wp2_with fail
  go_ret
  have h1 : Below w.heap.size w (w1.alloc (.cells #[.int .u8 1] 5)) := HB.out.alloc HB.out.size _
  have h2 : Below w.heap.size w w2 := h1.trans (HT2.out.below h1.size (fun k hk hz => by have := hz.1; omega))
  have h3 : Below w.heap.size w (w2.alloc (.cells #[.int .u8 2] 5)) := h2.alloc h2.size _
  have s1 := h1.size
  have s3 := h3.size
  exact ⟨rfl, h3.trans (HT4.out.below s3 (fun k hk hz => by
    have := hz.1
    rcases this with h | h
    · omega
    · have : w.heap.size ≤ w1.heap.size := HB.out.size
      simp at h
      omega))⟩
set_option maxHeartbeats 1000000 in
set_option maxRecDepth 100000 in
theorem filled_any {n room : Nat} (h0 : 1 ≤ room) (h1 : n ≤ room) (h2 : room ≤ 250) (w : World) :
    Calls Try.prog 9 #[.int .i64 n, .int .i64 room] w fun e w' => e = .returned (.tuple #[.pointer (some ⟨w.heap.size, 0, none⟩), .bool true]) ∧ Qu (fun k => w.heap.size ≤ k) w' w.heap.size room 0 (fillL n) ∧ Below w.heap.size w w' := by
  have HN := Lib.hid (qnew_any (room := room) (by omega) (by omega) w)
  have H1 := Lib.hid h1
  have H2 := Lib.hid h2
  clear h0 h1 h2
  go_enter Try.func9, Try.ntmps9
  go_wp2_with fail
  refine HN.out.mono ?_
  rintro e w1 ⟨rfl, hq, hb⟩
  obtain ⟨qb, hqb⟩ : ∃ qb, w.heap.size = qb := ⟨_, rfl⟩
  have HQ := Lib.hid hq
  have HB := Lib.hid hb
  have HQB := Lib.hid hqb
  rw [hqb] at HQ
  rw [hqb]
  clear hq hb hqb
  go_wp2_with fail
  go_loopw [8] (fun x wr => ∃ k : Nat, x = .int .i64 k ∧ k ≤ n ∧ Hid (Qu (fun k => qb ≤ k) wr qb room 0 (fillL k)) ∧ Hid (Below w.heap.size w wr)) (fun x _ => n - (intOf x).toNat)
  case atStart => exact ⟨0, rfl, Nat.zero_le _, HQ.out, HB.out⟩
  case round =>
    obtain ⟨k, rfl, hk, HQk, HBk⟩ := hrel
    by_cases hlt : k < n
    · have h250 : k < 250 := by have := H1.out; have := H2.out; omega
      have hu : IntKind.u8.wrap (k : Int) = k := by rw [IntKind.wrap_u8]; omega
      have HP := Lib.hid (qpush_in (n := 1) (c := 1) (w := wr.alloc (.cells #[.int .u8 k] 5)) (HQk.out.below ((Below.refl _ wr).alloc (Nat.le_refl _) _)) (by rw [fillL_len]; have := H1.out; omega) (Has.fresh wr #[.int .u8 k] 5 : Has _ _ _ (u8s [(k : Int)])) rfl (by_one (by omega)))
      rw [fillL_next] at HP
      go_wp2_with fail
      refine HP.out.mono ?_
      rintro e w2 ⟨rfl, hq2, ht2⟩
      have hs := HBk.out.size
      have HQ2 := Lib.hid (show Qu (fun k => qb ≤ k) w2 qb room 0 (fillL (k + 1)) from hq2.mono (fun j _ hj => hj.elim id (fun h => by have := HQB.out; simp at h; omega)))
      have h1 : Below w.heap.size w (wr.alloc (.cells #[.int .u8 k] 5)) := HBk.out.alloc hs _
      have HB2 := Lib.hid (show Below w.heap.size w w2 from h1.trans (ht2.below h1.size (fun j hj hz => by have := hz.1; have := HQB.out; omega)))
      clear hq2 ht2 h1 hs
      go_wp2_with fail
      go_roundw
      case rel => exact ⟨k + 1, by go_num, by omega, HQ2.out, HB2.out⟩
      case measure => simp [intOf]; omega
    · obtain rfl : k = n := by omega
      go_wp2_with fail
      go_ret2
      rw [HQB.out]
      refine ⟨rfl, HQk.out, ?_⟩
      rw [← HQB.out]
      exact HBk.out
end Go.Proofs.Ytpopchigboacaaa
