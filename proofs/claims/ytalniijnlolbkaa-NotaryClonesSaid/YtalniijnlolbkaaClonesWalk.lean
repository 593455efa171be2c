/- The walk of NotaryClones: it returns true for any three lists of acts. -/
import Derived.Test.YtalniijnlolbkaaPlaysWalk
import Derived.Test.YtalniijnlolbkaaCloneN
import Derived.Deep.RegionWith
namespace Go.Proofs.Ytalniijnlolbkaa
open Go.RowKit Go.Maps

/-- A contract of play, with what it asks laid down. -/
def Played (nb bm rb : Nat) (R : Nat → Prop) (w : World) (L : List Deed) (e : Ending) (w' : World) : Prop :=
  e = .returned (.bool true) ∧ ∃ L', Nt w' nb bm L' ∧ Rf R w' rb L' ∧ L'.Nodup ∧ L'.length ≤ L.length + 80 ∧ Turn (fun k => R k ∨ k = bm) w w'
/-- Two pairs beside each other: the first one's blocks lie below S3 or from S5 on, the second one's from S3 on and below S5. -/
structure Two (W nb bm rb nb2 bm2 rb2 S3 S5 : Nat) (L : List Deed) (w : World) : Prop where
  n : Nt w nb bm L
  r : Rf (fun k => (W ≤ k ∧ k ≠ nb ∧ k ≠ bm) ∧ ¬ (S3 ≤ k ∧ k < S5)) w rb L
  m : Nt w nb2 bm2 L
  s : Rf (fun k => S3 ≤ k ∧ k < S5 ∧ k ≠ nb2 ∧ k ≠ bm2) w rb2 L
  nd : L.Nodup
  len : L.length ≤ 1000
  p1 : W ≤ nb ∧ W ≤ bm ∧ nb < S3 ∧ bm < S3
  p2 : S3 ≤ nb2 ∧ S3 ≤ bm2 ∧ nb2 < S5 ∧ bm2 < S5
  s5 : S5 = w.heap.size
/-- When the first pair has played. -/
structure Then (W nb bm rb nb2 bm2 rb2 S3 S5 : Nat) (L L2 : List Deed) (w : World) : Prop where
  n : Nt w nb bm L2
  r : Rf (fun k => (W ≤ k ∧ k ≠ nb ∧ k ≠ bm) ∧ ¬ (S3 ≤ k ∧ k < S5)) w rb L2
  m : Nt w nb2 bm2 L
  s : Rf (fun k => (S3 ≤ k ∧ k < S5 ∧ k ≠ nb2 ∧ k ≠ bm2) ∨ w.heap.size ≤ k) w rb2 L
section
variable {W nb bm rb nb2 bm2 rb2 S3 S5 : Nat} {L L2 : List Deed} {w w' : World}
theorem Two.out (h : Two W nb bm rb nb2 bm2 rb2 S3 S5 L w) : Out (fun k => (W ≤ k ∧ k ≠ nb ∧ k ≠ bm) ∧ ¬ (S3 ≤ k ∧ k < S5)) nb bm w W := by
  have p1 := h.p1
  have p2 := h.p2
  have s5 := h.s5
  exact ⟨fun h => h.1.2.1 rfl, fun h => h.1.2.2 rfl, fun k hk => ⟨⟨by omega, by omega, by omega⟩, fun h => by omega⟩, fun k hk => ⟨fun h => by omega, by omega, by omega⟩⟩
theorem Two.step1 (h : Two W nb bm rb nb2 bm2 rb2 S3 S5 L w) (hn : Nt w' nb bm L2) (hr : Rf (fun k => (W ≤ k ∧ k ≠ nb ∧ k ≠ bm) ∧ ¬ (S3 ≤ k ∧ k < S5)) w' rb L2)
    (ht : Turn (fun k => ((W ≤ k ∧ k ≠ nb ∧ k ≠ bm) ∧ ¬ (S3 ≤ k ∧ k < S5)) ∨ k = bm) w w') : Then W nb bm rb nb2 bm2 rb2 S3 S5 L L2 w' := by
  have p1 := h.p1
  have p2 := h.p2
  exact ⟨hn, hr, h.m.kept ht (fun hz => by omega) (fun hz => by omega), (h.s.kept ht (fun k _ hk hz => by omega)).mono (fun k _ hk => Or.inl hk)⟩
theorem Two.out2 (h : Two W nb bm rb nb2 bm2 rb2 S3 S5 L w) (hw : w.heap.size ≤ w'.heap.size) : Out (fun k => (S3 ≤ k ∧ k < S5 ∧ k ≠ nb2 ∧ k ≠ bm2) ∨ w'.heap.size ≤ k) nb2 bm2 w' W := by
  have p1 := h.p1
  have p2 := h.p2
  have s5 := h.s5
  exact ⟨fun h => by omega, fun h => by omega, fun k hk => Or.inr hk, fun k hk => ⟨fun h => by omega, by omega, by omega⟩⟩
theorem Two.last {wz : World} (h : Two W nb bm rb nb2 bm2 rb2 S3 S5 L w) (hw : w.heap.size ≤ w'.heap.size) (h2 : Then W nb bm rb nb2 bm2 rb2 S3 S5 L L2 w')
    (ht : Turn (fun k => ((S3 ≤ k ∧ k < S5 ∧ k ≠ nb2 ∧ k ≠ bm2) ∨ w'.heap.size ≤ k) ∨ k = bm2) w' wz) :
    Nt wz nb bm L2 ∧ ∃ A c, wz.cell? ⟨rb, 0, none⟩ = some (.slice A L2.length c) := by
  have p1 := h.p1
  have p2 := h.p2
  have s5 := h.s5
  refine ⟨h2.n.kept ht (fun hz => by omega) (fun hz => by omega), ?_⟩
  have hr := h2.r.kept ht (fun k hk hk2 hz => by omega)
  obtain ⟨v1, v2, hb, ho1, _, _, _⟩ := hr.ex
  obtain ⟨A, c, rfl, _, _⟩ := own_slice ho1
  exact ⟨A, c, hb.cell 0⟩
end
theorem Two.made {W nb bm rb nb2 bm2 rb2 : Nat} {L : List Deed} {w3 w4 w5 : World} (hn : Nt w3 nb bm L) (hr : Rf (fun k => W ≤ k ∧ k ≠ nb ∧ k ≠ bm) w3 rb L) (hd : L.Nodup) (hl : L.length ≤ 1000) (h1 : W ≤ nb) (h2 : W ≤ bm)
    (h4 : Nt w4 nb bm L) (h5 : Nt w4 nb2 bm2 L) (h6 : w3.heap.size ≤ nb2) (h7 : w3.heap.size ≤ bm2) (hb4 : Below w3.heap.size w3 w4) (hs : Rf (fun k => w4.heap.size ≤ k) w5 rb2 L) (hb5 : Below w4.heap.size w4 w5) :
    Two W nb bm rb nb2 bm2 rb2 w3.heap.size w5.heap.size L w5 := by
  have q1 := hn.lt
  have q2 := h5.lt
  have q3 := hb4.size
  have q4 := hb5.size
  refine ⟨h4.below hb5, ((hr.mono (fun k hk hz => ⟨hz, fun h => by omega⟩)).below hb4).below hb5, h5.below hb5, hs.mono (fun k hk hz => ⟨by omega, hk, by omega, by omega⟩), hd, hl, ⟨h1, h2, q1.1, q1.2⟩, ⟨h6, h7, by omega, by omega⟩, rfl⟩

theorem Turn.undrew {Z : Nat → Prop} {w w' : World} (h : Turn Z w.drew w') : Turn Z w w' := ⟨h.os, h.tape, h.output, h.size, h.block⟩
set_option maxHeartbeats 2000000 in
theorem notaryClones_walk (A : Option Addr) (c : Nat) (l : List Ac) (A2 : Option Addr) (c2 : Nat) (l2 : List Ac) (A3 : Option Addr) (c3 : Nat) (l3 : List Ac) (w : World) (w0 : IsActs w A l c) (w1 : IsActs w A2 l2 c2) (w2 : IsActs w A3 l3 c3) :
    Calls Try.prog 5 #[.slice A l.length c, .slice A2 l2.length c2, .slice A3 l3.length c3] w fun e w' => e = .returned (.bool true) ∧ Below w.heap.size w w' := by
  have HA := Lib.hid w0
  have HA2 := Lib.hid w1
  have HA3 := Lib.hid w2
  clear w0 w1 w2
  go_enter Try.func5, Try.ntmps5
  go_wp2_with fail
  refine (new_any _).mono ?_
  rintro e w1 ⟨nb, bm, rfl, hN, h1, h2, hb⟩
  have HB := Lib.hid hb
  have HN := Lib.hid hN
  have HB2 := Lib.hid (hb.alloc hb.size (.cells #[.slice none 0 0, .slice none 0 0] 30))
  have HN2 := Lib.hid (hN.below ((Below.refl _ w1).alloc (Nat.le_refl _) (.cells #[.slice none 0 0, .slice none 0 0] 30)))
  have HR2 := Lib.hid (Rf.made w1 (R := fun k => w.heap.size ≤ k ∧ k ≠ nb ∧ k ≠ bm) ⟨hb.size, by have := hN.lt; omega, by have := hN.lt; omega⟩)
  have HO2 := Lib.hid (Out.first h1 h2 HN2.out.lt)
  clear hb hN
  go_wp2_with fail
  refine (play_any HN2.out HR2.out List.nodup_nil (Nat.zero_le _) HO2.out (ActsIn.of HA.out HB2.out)).mono ?_
  rintro e w3 ⟨rfl, L, hN3, hR3, hD3, hL3, ht3⟩
  have HB3 := Lib.hid (HB2.out.trans (ht3.below (B := w.heap.size) HB2.out.size (fun k hk hz => hz.elim (HO2.out.low k hk).1 (HO2.out.low k hk).2.1)))
  have HN3 := Lib.hid hN3
  have HR3 := Lib.hid hR3
  have HD3 := Lib.hid hD3
  have HL3 := Lib.hid (show L.length ≤ 1000 from Nat.le_trans hL3 (by decide))
  obtain ⟨rb, hrb⟩ : ∃ rb, w1.heap.size = rb := ⟨_, rfl⟩
  rw [hrb] at HR3 ⊢
  have HP1 := Lib.hid h1
  have HP2 := Lib.hid h2
  clear ht3 hN3 hR3 hD3 hL3 HR2 HO2 HN2 HB2 HB HN hrb h1 h2
  go_wp2_with fail
  refine (clone_any HN3.out).mono ?_
  rintro e w4 ⟨nb2, bm2, rfl, hN4, hN5, h3, h4, hb4⟩
  have HN4 := Lib.hid hN4
  have HN5 := Lib.hid hN5
  have HB4 := Lib.hid hb4
  have HP3 := Lib.hid h3
  have HP4 := Lib.hid h4
  clear hN4 hN5 hb4 h3 h4
  go_wp2_with fail
  refine (rcopy_any (HR3.out.below HB4.out) (Nat.le_trans HL3.out (by decide))).mono ?_
  rintro e w5 ⟨rb2, rfl, hR5, hb5⟩
  have HT := Lib.hid (Two.made HN3.out HR3.out HD3.out HL3.out HP1.out HP2.out HN5.out HN4.out HP3.out HP4.out HB4.out hR5 hb5)
  have HB5 := Lib.hid ((HB3.out.trans (HB4.out.mono HB3.out.size)).trans (hb5.mono (Nat.le_trans HB3.out.size HB4.out.size)))
  obtain ⟨S3, hS3⟩ : ∃ S3, w3.heap.size = S3 := ⟨_, rfl⟩
  obtain ⟨S5, hS5⟩ : ∃ S5, w5.heap.size = S5 := ⟨_, rfl⟩
  rw [hS3, hS5] at HT
  clear hR5 hb5 hS3 hS5 HN3 HR3 HD3 HN4 HN5 HP1 HP2 HP3 HP4 HB3 HB4
  have HPl := Lib.hid (show Calls Try.prog 8 #[.pointer (some ⟨nb, 0, none⟩), .pointer (some ⟨rb, 0, none⟩), .slice A2 l2.length c2] w5.drew (Played nb bm rb (fun k => (w.heap.size ≤ k ∧ k ≠ nb ∧ k ≠ bm) ∧ ¬ (S3 ≤ k ∧ k < S5)) w5.drew L) from
    play_any (HT.out.n.drewN 1) (HT.out.r.drewN 1) HT.out.nd HT.out.len ⟨HT.out.out.nbn, HT.out.out.bmn, HT.out.out.new, HT.out.out.low⟩ (ActsIn.of HA2.out (HB5.out.trans ⟨rfl, rfl, rfl, Nat.le_refl _, fun _ _ => rfl⟩)))
  go_wp2_with fail
  go_region_with (first
    | (go_at_call 8; (with_reducible refine HPl.out.mono ?_); rintro e w6 ⟨rfl, L2, hN6, hR6, hD6, hL6, ht6⟩; have hsz6 := ht6.undrew.size; have hTh := HT.out.step1 hN6 hR6 ht6.undrew; have hO6 := HT.out.out2 hsz6; have hB6 := HB5.out.trans (ht6.undrew.below (B := w.heap.size) HB5.out.size (fun k hk hz => hz.elim (HT.out.out.low k hk).1 (HT.out.out.low k hk).2.1)); have hP6 : Calls Try.prog 8 #[.pointer (some ⟨nb2, 0, none⟩), .pointer (some ⟨rb2, 0, none⟩), .slice A3 l3.length c3] w6 (Played nb2 bm2 rb2 (fun k => (S3 ≤ k ∧ k < S5 ∧ k ≠ nb2 ∧ k ≠ bm2) ∨ w6.heap.size ≤ k) w6 L) := play_any hTh.m hTh.s HT.out.nd HT.out.len hO6 (ActsIn.of HA3.out hB6))
    | (go_at_call 8; (with_reducible refine hP6.mono ?_); rintro e w7 ⟨rfl, L3, hN7', hR7, hD7, hL7, ht7⟩; obtain ⟨hN7, A7, c7, hc7⟩ := HT.out.last hsz6 hTh ht7; have hB7 := hB6.trans (ht7.below (B := w.heap.size) hB6.size (fun k hk hz => hz.elim (hO6.low k hk).1 (hO6.low k hk).2.1)))
    | (go_at_call 12; refine (len_any hN7).mono ?_; rintro e wx ⟨rfl, rfl⟩)
    | (go_at_call 9; refine (wakesN_any w7).mono ?_; rintro e w8 ⟨rfl, hb8⟩))
  all_goals
    go_wp2_with fail
    go_ret
    exact ⟨rfl, hB7.trans (hb8.mono hB7.size)⟩
end Go.Proofs.Ytalniijnlolbkaa
