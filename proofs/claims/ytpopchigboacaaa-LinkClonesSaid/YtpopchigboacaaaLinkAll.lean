/- The contract of the law's own all: the queue holds just what the list does. -/
import Derived.Test.YtpopchigboacaaaLinkJo
import Derived.Test.YtpopchigboacaaaSame
namespace Go.Proofs.Ytpopchigboacaaa
open Go.RowKit Go.Sort

set_option maxHeartbeats 2000000 in
set_option maxRecDepth 100000 in
theorem all_any7 {R : Nat → Prop} {B : Nat} {w0 w : World} {qb pb : Nat} {room lost : Int} {l : List Bs} (h : Jo R B w0 w qb pb room lost (l.map Bs.z) lost l) (hB : B ≤ w.heap.size) :
    Calls Try.prog 20 #[.pointer (some ⟨qb, 0, none⟩), .pointer (some ⟨pb, 0, none⟩)] w fun e w' => e = .returned (.bool true) ∧ Below w.heap.size w w' := by
  have HJ := Lib.hid h
  have HB := Lib.hid hB
  obtain ⟨vp, p1, p2, -⟩ := h.p.ex
  obtain ⟨Ap, cp, rfl, -, -⟩ := own_slice p2
  have HP := Lib.hid p1
  have hp2 := p1.cell 2
  simp only [List.getElem?_toArray, List.getElem?_cons_zero, List.getElem?_cons_succ] at hp2
  have h256 : l.length ≤ 256 := by have h1 := h.q.len; have h2 := h.q.r2; rw [List.length_map] at h1; omega
  clear h hB p1 p2
  go_enter Try.func20, Try.ntmps20
  go_wp2_with fail
  go_loopw [13] (fun x wr => ∃ k : Nat, x = .int .i64 k ∧ k ≤ l.length ∧ Hid (Below w.heap.size w wr)) (fun x _ => l.length - (intOf x).toNat)
  case atStart => exact ⟨0, rfl, Nat.zero_le _, Below.refl _ _⟩
  case round =>
    obtain ⟨k, rfl, hk, HBk⟩ := hrel
    have hjk := HJ.out.below HBk.out HB.out
    have HJk := Lib.hid hjk
    by_cases hlt : k < l.length
    · have HP1 := Lib.hid (show Calls Try.prog 11 #[.pointer (some ⟨qb, 0, none⟩), .int .i64 k] wr fun e w' => ∃ c, e = .returned (.tuple #[.slice (some ⟨wr.heap.size, 0, none⟩) l[k].z.length c, .bool true]) ∧ Bytes w' wr.heap.size l[k].z ∧ Below wr.heap.size wr w' ∧ wr.heap.size < w'.heap.size from by
        have h := qpeek_in hjk.q (k := k) (by simpa using hlt)
        rw [List.getElem_map] at h
        exact h)
      clear hjk
      go_wp2_with fail
      refine HP1.out.mono ?_
      rintro e w3 ⟨c3, rfl, hby, hb3, _⟩
      have hj3 := HJk.out.below hb3 (Nat.le_trans HB.out HBk.out.size)
      obtain ⟨vq, q1, q2, -⟩ := hj3.p.ex
      obtain ⟨gp, cq, rfl, hnc, _, _, hce⟩ := own_bs q2 hlt
      have hq2 := q1.cell 2
      simp only [List.getElem?_toArray, List.getElem?_cons_zero, List.getElem?_cons_succ] at hq2
      have hyin := hj3.in_ _ (List.getElem_mem hlt)
      obtain ⟨y, hy⟩ : ∃ y, l[k] = y := ⟨_, rfl⟩
      rw [hy] at hby hce hyin ⊢
      have HS := Lib.hid (same_is (A := some ⟨wr.heap.size, 0, none⟩) (c := c3) (c' := y.c) (r := true) rfl rfl (by have := hyin.good.len; omega) (by simp [sameB]) w3 hby.has.tight hyin.has.tight)
      have HB3 := Lib.hid (show Below w.heap.size w w3 from HBk.out.trans (hb3.mono HBk.out.size))
      clear hby hb3 hj3 q1 q2 hyin hy hp2
      go_wp2_with fail
      refine HS.out.mono ?_
      rintro e w4 ⟨rfl, nq, rfl⟩
      go_wp2_with fail
      go_roundw
      case rel => exact ⟨k + 1, by go_num, by omega, below_drewN HB3.out _⟩
      case measure => simp [intOf]; omega
    · obtain rfl : k = l.length := by omega
      have hq := HP.out.below HBk.out HP.out.lt
      have hp3 := hq.cell 2
      simp only [List.getElem?_toArray, List.getElem?_cons_zero, List.getElem?_cons_succ] at hp3
      have HL := Lib.hid (fun q => (qlen_any (hjk.q.drewN q)).mono (R' := fun e w' => e = .returned (.int .i64 (l.length : Int)) ∧ w' = wr.drewN q) (fun e w' he => ⟨by rw [he.1, List.length_map], he.2.symm⟩))
      clear hjk hp2 hq
      go_wp2_with fail
      go_quiet ((go_at_call 13; exact Calls.quiet_of_same (HL.out _)))
      go_wp2_with fail
      go_ret
      exact ⟨rfl, below_drewN HBk.out _⟩
end Go.Proofs.Ytpopchigboacaaa
