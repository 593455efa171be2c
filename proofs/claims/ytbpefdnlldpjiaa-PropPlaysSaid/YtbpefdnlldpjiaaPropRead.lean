/- Package prop: pending, Has, ready, Since, All, Ready: what only reads. -/
import Derived.Test.YtbpefdnlldpjiaaPropFind
import Derived.Test.YtbpefdnlldpjiaaReqRow
namespace Go.Proofs.Ytbpefdnlldpjiaa
open Go.RowKit Go.Sort
set_option linter.unusedSimpArgs false

theorem pend_next {L : List Tr} {c : Int} {k : Nat} {x : Tr} (h : L[k]? = some x) : pend (L.take (k + 1)) c = pend (L.take k) c + if x.rq.cl = c then 1 else 0 := by
  unfold pend
  rw [List.take_add_one, h, List.countP_append]
  by_cases e : x.rq.cl = c <;> simp [e]
theorem pend_le (L : List Tr) (c : Int) : pend L c ≤ L.length := List.countP_le_length
set_option maxHeartbeats 1000000 in
theorem ppend_any {w : World} {tb : Nat} {v : Value} {f n : Int} {L : List Tr} (h : Tb w tb v f n L) (cl : Int) : Calls Try.prog 27 #[.pointer (some ⟨tb, 0, none⟩), .int .i64 cl] w fun e w' => e = .returned (.int .i64 (pend L cl : Nat)) ∧ Below w.heap.size w w' := by
  obtain ⟨A, c, rfl, _, _, hh⟩ := h.has
  have HH := Lib.hid hh
  have c2 := h.blk.cell 2
  simp only [List.getElem?_toArray, List.getElem?_cons_zero, List.getElem?_cons_succ] at c2
  have hm := h.ok.most
  obtain ⟨n0, hn0⟩ : ∃ n0, L.length = n0 := ⟨_, rfl⟩
  rw [hn0] at c2 hm
  have HN := Lib.hid hn0
  clear h hh hn0
  go_enter Try.func27, Try.ntmps27
  go_wp2_with fail
  go_loopw [5, 13] (fun y x wr => ∃ (k m : Nat), x = .int .i64 k ∧ y = .int .i64 m ∧ k ≤ n0 ∧ m ≤ k ∧ Hid (m = pend (L.take k) cl) ∧ Hid (Below w.heap.size w wr)) (fun _ x _ => n0 - (intOf x).toNat)
  case atStart => exact ⟨0, 0, rfl, rfl, Nat.zero_le _, Nat.le_refl _, rfl, Below.refl _ _⟩
  case round =>
    obtain ⟨k, m, rfl, rfl, hk, hmk, HP, HB⟩ := hrel
    by_cases hlt : k < n0
    · have hkL : k < L.length := by rw [HN.out]; exact hlt
      obtain ⟨ad, rfl, hab, hR⟩ := tr_at (HH.out.below HB.out (Nat.le_refl _)) hkL
      have HX := Lib.hid (show L[k]? = some L[k] from List.getElem?_eq_getElem hkL)
      obtain ⟨x, hx⟩ : ∃ x, L[k] = x := ⟨_, rfl⟩
      rw [hx] at hR HX
      obtain ⟨c0, c1, c2', c3, c4, c5, c6, c7⟩ := hR
      obtain ⟨mm, hmm⟩ : ∃ m : Int, (maskS x.bs : Nat) = m := ⟨_, rfl⟩
      rw [hmm] at c6
      have HPn := Lib.hid (pend_next (c := cl) HX.out)
      have HB2 := Lib.hid (fun (cs : Array Value) => show Below w.heap.size w (wr.alloc (.cells cs 70)) from HB.out.alloc HB.out.size _)
      clear hx hkL hmm
      by_cases e : x.rq.cl = cl
      · have hg : (x.rq.cl == cl) = true := by simpa using e
        have HP2 := Lib.hid (show m + 1 = pend (L.take (k + 1)) cl by rw [HPn.out, ← HP.out, if_pos e])
        clear e
        go_wp2_with fail
        go_roundw
        case rel => exact ⟨k + 1, m + 1, by go_num, by go_num, by omega, by omega, HP2, HB2.out _⟩
        case measure => simp [intOf]; omega
      · have hg : (x.rq.cl == cl) = false := by simpa using e
        have HP2 := Lib.hid (show m = pend (L.take (k + 1)) cl by rw [HPn.out, ← HP.out, if_neg e]; rfl)
        clear e
        go_wp2_with fail
        go_roundw
        case rel => exact ⟨k + 1, m, by go_num, rfl, by omega, by omega, HP2, HB2.out _⟩
        case measure => simp [intOf]; omega
    · obtain rfl : k = n0 := by omega
      have HE := Lib.hid (show m = pend L cl by have := HP.out; rwa [List.take_of_length_le (by rw [HN.out]; exact Nat.le_refl _)] at this)
      go_wp2_with fail
      go_ret
      exact ⟨by rw [← HE.out]; rfl, HB.out⟩
end Go.Proofs.Ytbpefdnlldpjiaa
