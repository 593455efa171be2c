/- Package ledger: Fold. -/
import Derived.Test.YtpjcedilkahpiaaCut12
namespace Go.Proofs.Ytpjcedilkahpiaa
open Go.RowKit
set_option linter.unusedSimpArgs false

theorem own_at {w : World} {b n s c : Nat} {e : TypeId} {A : Option Addr} {xs : List Value} (h : w.ownsRow b e s (.slice A n c) n xs) : ∀ ad, A = some ad → b ≤ ad.block ∧ ad.block < w.heap.size := by
  rintro ad rfl
  refine h.lt ad.block ?_
  rcases h.2 with ⟨e2, _⟩ | ⟨g', cap, cur, e2, hg, _⟩
  · injection e2 with e3; cases e3
  · rw [e2]
    injection e2 with e3
    injection e3 with e3
    rw [e3]; rfl
theorem Lx.base {w0 w w' : World} {b : Lb} {s : Sc} {E : List En} (h : Lx w b s E w') (hb : Below w0.heap.size w0 w) : Lx w0 b s E w' := ⟨h.lg, hb.trans (h.low.mono hb.size), fun k hk => Nat.le_trans hb.size (h.up k hk)⟩
set_option maxRecDepth 100000 in
set_option maxHeartbeats 2000000 in
theorem lfold_any {n : Nat} (h1 : 1 ≤ n) (h4 : n ≤ 4) {w : World} {A : Option Addr} {c m : Nat} {L : List Bt} (hA : Has w w.heap.size A (L.flatMap Bt.cells)) (hL : HasBs w w.heap.size L) (hm : L.length = m) (hmm : m ≤ 1000000) (hN : (allS L).length ≤ 1000000) :
    Calls Try.prog 13 #[.int .i64 (n : Int), .slice A m c] w fun e w' => ∃ b : Lb, e = .returned (.tuple #[.pointer (some ⟨b.lb, 0, none⟩), .int .i64 0]) ∧ Lx w b ((Sc.new n).run (allS L)) ((Sc.new n).ran (allS L)) w' ∧ b.N ≤ (allS L).length := by
  have HA := Lib.hid hA
  have HL := Lib.hid hL
  have HM := Lib.hid hm
  have HN := Lib.hid hN
  have HC := Lib.hid (lx_new h1 h4 w w (Below.refl _ _))
  clear hA hL hm hN h1 h4
  go_enter Try.func13, Try.ntmps13
  go_wp2_with fail
  refine HC.out.mono ?_
  rintro e w1 ⟨b0, rfl, hl, hn0, _, _⟩
  obtain ⟨lb, hlb⟩ : ∃ lb, b0.lb = lb := ⟨_, rfl⟩
  have HS0 := Lib.hid (show Lx w b0 ((Sc.new n).run (allS (L.take 0))) ((Sc.new n).ran (allS (L.take 0))) w1 ∧ b0.N = ((Sc.new n).ran (allS (L.take 0))).length ∧ b0.lb = lb from ⟨hl, hn0, hlb⟩)
  rw [hlb]
  clear hl hn0 hlb HC
  go_wp2_with fail
  go_loopw [20] (fun x wr => ∃ (k : Nat) (b : Lb), x = .int .i64 k ∧ k ≤ m ∧ Hid (Lx w b ((Sc.new n).run (allS (L.take k))) ((Sc.new n).ran (allS (L.take k))) wr ∧ b.N = ((Sc.new n).ran (allS (L.take k))).length ∧ b.lb = lb)) (fun x _ => m - (intOf x).toNat)
  case atStart => exact ⟨0, b0, rfl, Nat.zero_le _, HS0⟩
  case round =>
    obtain ⟨k, b, rfl, hk, HS⟩ := hrel
    clear HS0
    obtain ⟨hl, hbn, hlb⟩ := HS.out
    by_cases hlt : k < m
    · have hkl : k < L.length := by rw [HM.out]; exact hlt
      obtain ⟨ad, rfl, _, c0⟩ := (HA.out.below hl.low (Nat.le_refl _)).bat hkl
      obtain ⟨x, hx⟩ : ∃ x, L[k] = x := ⟨_, rfl⟩
      have hxm : x ∈ L := hx ▸ List.getElem_mem hkl
      rw [hx] at c0
      have hAx := (HL.out.has x hxm).below hl.low (Nat.le_refl _)
      obtain ⟨p, hp⟩ : ∃ p, x.l.length = p := ⟨_, rfl⟩
      rw [hp] at c0
      have hle : (allS (L.take k)).length + p ≤ (allS L).length := by
        have := allS_le (l := L) (k + 1)
        rw [allS_take hkl, List.length_append, hx, hp] at this
        exact this
      have KR := Lib.hid (lx_run hl (c := x.c) hAx (hAx.off hl.up) hp (by
        have h1 := Sc.ran_len (allS (L.take k)) (Sc.new n)
        have h2 := HN.out
        omega))
      rw [hlb] at KR
      have HX := Lib.hid hx
      have HBn := Lib.hid hbn
      have HLb := Lib.hid hlb
      clear hl hbn hlb hAx hxm hx hp hle HS
      go_wp2_with fail
      refine KR.out.mono ?_
      rintro e w2 ⟨v, b', rfl, hR⟩
      have HS2 := Lib.hid (show Lx w b' ((Sc.new n).run (allS (L.take (k + 1)))) ((Sc.new n).ran (allS (L.take (k + 1)))) w2 ∧ b'.N = ((Sc.new n).ran (allS (L.take (k + 1)))).length ∧ b'.lb = lb from by
        rw [allS_take hkl, HX.out, Sc.run_app, Sc.ran_app]
        exact ⟨hR.lx, by rw [hR.n, HBn.out, List.length_append], hR.same.trans HLb.out⟩)
      clear hR KR
      go_wp2_with fail
      go_roundw
      case rel => exact ⟨k + 1, b', by go_num, by omega, HS2⟩
      case measure => simp [intOf]; omega
    · obtain rfl : k = m := by omega
      have he : L.take k = L := List.take_of_length_le (by rw [HM.out]; exact Nat.le_refl _)
      rw [he] at hl hbn
      have HLx := Lib.hid hl
      have HBn := Lib.hid (show b.N ≤ (allS L).length by rw [hbn]; exact Sc.ran_len _ _)
      have HLb := Lib.hid hlb
      clear hl hbn hlb he HS hlt
      go_wp2_with fail
      go_ret2
      exact ⟨b, by rw [HLb.out]; rfl, HLx.out, HBn.out⟩
/-- cut, and Fold of what it gives. -/
theorem cutfold {n : Nat} (h1 : 1 ≤ n) (h4 : n ≤ 4) {w : World} {A : Option Addr} {c : Nat} {l : List Bt} (h : IsBats w A l c) (u : World) (hu : Below w.heap.size w u) :
    Calls Try.prog 14 #[.slice A l.length c] u fun e w' => ∃ A1 c1, e = .returned (.slice A1 (cutS l).length c1) ∧ Below u.heap.size u w' ∧ Below w.heap.size w w' ∧
      Calls Try.prog 13 #[.int .i64 (n : Int), .slice A1 (cutS l).length c1] w' fun e w2 => ∃ b : Lb, e = .returned (.tuple #[.pointer (some ⟨b.lb, 0, none⟩), .int .i64 0]) ∧ Lx w' b ((Sc.new n).run (allS (cutS l))) ((Sc.new n).ran (allS (cutS l))) w2 ∧ b.N ≤ 160 :=
  (cut_any h u hu).mono fun e w' ⟨v, he, ho, hb⟩ => by
    obtain ⟨A1, c1, rfl, -, -⟩ := own_slice ho
    have hw := hu.trans (hb.mono hu.size)
    have hl := allS_cut_len l
    refine ⟨A1, c1, he, hb, hw, (lfold_any h1 h4 (c := c1) (has_rows ho) ((h.cut.below hw (Nat.le_refl _)).mono hw.size) rfl ?_ (by omega)).mono fun e w2 ⟨b, he, hl2, hN⟩ => ⟨b, he, hl2, by omega⟩⟩
    unfold cutS
    rw [List.length_map, List.length_take]
    omega
end Go.Proofs.Ytpjcedilkahpiaa
