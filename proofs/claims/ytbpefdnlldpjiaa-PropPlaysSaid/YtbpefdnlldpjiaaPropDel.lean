/- Package prop: Drop, by the library's DeleteFunc. -/
import Derived.Test.YtbpefdnlldpjiaaPropRow
namespace Go.Proofs.Ytbpefdnlldpjiaa
open Go.RowKit Go.Sort
set_option linter.unusedSimpArgs false

/-- Whether a row is dropped. -/
def delT (c t : Int) (x : Tr) : Bool := decide (x.rq.cl = c) && decide (x.rq.tm ≤ t)
theorem dropT_is (L : List Tr) (c t : Int) : dropT L c t = L.filter fun x => !delT c t x := rfl
set_option maxHeartbeats 1000000 in
theorem drop_cl {w : World} {gc gt : Nat} {cl tm : Int} (hc : w.cell? ⟨gc, 0, none⟩ = some (.int .i64 cl)) (ht : w.cell? ⟨gt, 0, none⟩ = some (.int .i64 tm)) (x : Tr) :
    Calls Try.prog 39 #[.agg #[.int .i64 x.rq.cl, .int .i64 x.rq.tm, .int .i64 x.rq.kd, .int .i64 x.rq.ky, .int .i64 x.rq.vl, .int .i64 x.rq.sg, .int .u16 (maskS x.bs : Nat), .int .i64 x.sc], .pointer (some ⟨gc, 0, none⟩), .pointer (some ⟨gt, 0, none⟩)] w fun e w' => e = .returned (.bool (delT cl tm x)) ∧ Below w.heap.size w w' := by
  obtain ⟨mm, hmm⟩ : ∃ m : Int, (maskS x.bs : Nat) = m := ⟨_, rfl⟩
  rw [hmm]
  have HB := Lib.hid (show Below w.heap.size w (w.alloc (.cells #[.int .i64 x.rq.cl, .int .i64 x.rq.tm, .int .i64 x.rq.kd, .int .i64 x.rq.ky, .int .i64 x.rq.vl, .int .i64 x.rq.sg, .int .u16 mm, .int .i64 x.sc] 70)) from (Below.refl _ _).alloc (Nat.le_refl _) _)
  have hgc := block_lt hc
  have hgt := block_lt ht
  have c1 : (w.alloc (.cells #[.int .i64 x.rq.cl, .int .i64 x.rq.tm, .int .i64 x.rq.kd, .int .i64 x.rq.ky, .int .i64 x.rq.vl, .int .i64 x.rq.sg, .int .u16 mm, .int .i64 x.sc] 70)).cell? ⟨gc, 0, none⟩ = some (.int .i64 cl) := (HB.out.cell (p := ⟨gc, 0, none⟩) hgc).trans hc
  have c2 : (w.alloc (.cells #[.int .i64 x.rq.cl, .int .i64 x.rq.tm, .int .i64 x.rq.kd, .int .i64 x.rq.ky, .int .i64 x.rq.vl, .int .i64 x.rq.sg, .int .u16 mm, .int .i64 x.sc] 70)).cell? ⟨gt, 0, none⟩ = some (.int .i64 tm) := (HB.out.cell (p := ⟨gt, 0, none⟩) hgt).trans ht
  clear hmm hc ht hgc hgt
  by_cases h1 : x.rq.cl = cl
  · have g1 : (x.rq.cl == cl) = true := by simpa using h1
    have HD := Lib.hid (show delT cl tm x = decide (x.rq.tm ≤ tm) by unfold delT; rw [decide_eq_true h1]; rfl)
    obtain ⟨b, hb⟩ : ∃ b, decide (x.rq.tm ≤ tm) = b := ⟨_, rfl⟩
    clear h1
    go_enter Try.func39, Try.ntmps39
    go_wp2_with fail
    go_ret
    exact ⟨by rw [HD.out]; first | rfl | simp [hb], HB.out⟩
  · have g1 : (x.rq.cl == cl) = false := by simpa using h1
    have HD := Lib.hid (show delT cl tm x = false by unfold delT; rw [decide_eq_false h1]; rfl)
    clear h1
    go_enter Try.func39, Try.ntmps39
    go_wp2_with fail
    go_ret
    exact ⟨by rw [HD.out]; rfl, HB.out⟩
/-- What the closure holds. -/
structure Cap (w : World) (gc gt : Nat) (cl tm : Int) : Prop where
  c : w.cell? ⟨gc, 0, none⟩ = some (.int .i64 cl)
  t : w.cell? ⟨gt, 0, none⟩ = some (.int .i64 tm)
theorem Cap.below {w w' : World} {gc gt : Nat} {cl tm : Int} (h : Cap w gc gt cl tm) (hb : Below w.heap.size w w') : Cap w' gc gt cl tm :=
  ⟨(hb.cell (p := ⟨gc, 0, none⟩) (block_lt h.c)).trans h.c, (hb.cell (p := ⟨gt, 0, none⟩) (block_lt h.t)).trans h.t⟩
/-- The first place of a row that is dropped. -/
def Fst (p : Tr → Bool) (L : List Tr) (z : Int) : Prop := (z = -1 ∧ ∀ x ∈ L, p x = false) ∨ ∃ k : Nat, z = k ∧ k < L.length ∧ (∀ x ∈ L.take k, p x = false) ∧ ∃ x, L[k]? = some x ∧ p x = true
set_option maxHeartbeats 1000000 in
theorem idx_any {w : World} {A : Option Addr} {c n : Nat} {L : List Tr} {gc gt : Nat} {cl tm : Int} (h : Has w w.heap.size A (trCells L)) (hn : L.length = n) (hm : n ≤ 16) (hc : Cap w gc gt cl tm) :
    Calls Try.prog 52 #[.slice A n c, .func (.func 39) #[] #[.pointer (some ⟨gc, 0, none⟩), .pointer (some ⟨gt, 0, none⟩)]] w fun e w' => ∃ z, e = .returned (.int .i64 z) ∧ Fst (delT cl tm) L z ∧ Below w.heap.size w w' := by
  have HH := Lib.hid h
  have HN := Lib.hid hn
  have HC := Lib.hid hc
  clear h hn hc
  go_enter Try.func52, Try.ntmps52
  go_wp2_with fail
  go_loopw [8] (fun y wr => ∃ k : Nat, y = .int .i64 k ∧ k ≤ n ∧ Hid (∀ x ∈ L.take k, delT cl tm x = false) ∧ Hid (Below w.heap.size w wr)) (fun y _ => n - (intOf y).toNat)
  case atStart => exact ⟨0, rfl, Nat.zero_le _, (fun x hx => by simp at hx), Below.refl _ _⟩
  case round =>
    obtain ⟨k, rfl, hk, HP, HB⟩ := hrel
    by_cases hlt : k < n
    · have hkL : k < L.length := by rw [HN.out]; exact hlt
      obtain ⟨ad, rfl, hab, hR⟩ := tr_at (HH.out.below HB.out (Nat.le_refl _)) hkL
      have HX := Lib.hid (show L[k]? = some L[k] from List.getElem?_eq_getElem hkL)
      obtain ⟨x, hx⟩ : ∃ x, L[k] = x := ⟨_, rfl⟩
      rw [hx] at hR HX
      have HCap := HC.out.below HB.out
      have HK := Lib.hid (drop_cl HCap.c HCap.t x)
      obtain ⟨c0, c1, c2, c3, c4, c5, c6, c7⟩ := hR
      obtain ⟨mm, hmm⟩ : ∃ m : Int, (maskS x.bs : Nat) = m := ⟨_, rfl⟩
      rw [hmm] at c6 HK
      clear hx hmm HCap
      cases hd : delT cl tm x
      · rw [hd] at HK
        have HP2 := Lib.hid (show ∀ y ∈ L.take (k + 1), delT cl tm y = false from fun y hy => by
          rw [List.take_add_one, HX.out] at hy
          rcases List.mem_append.1 hy with hy | hy
          · exact HP.out y hy
          · have : y = x := by simpa using hy
            rw [this]; exact hd)
        clear hd hkL
        go_wp2_with fail
        refine HK.out.mono ?_
        rintro e w2 ⟨rfl, hb2⟩
        have HB2 := Lib.hid (HB.out.trans (hb2.mono HB.out.size))
        clear hb2
        go_wp2_with fail
        go_roundw
        case rel => exact ⟨k + 1, by go_num, by omega, HP2, HB2⟩
        case measure => simp [intOf]; omega
      · rw [hd] at HK
        have HF := Lib.hid (show Fst (delT cl tm) L (k : Int) from Or.inr ⟨k, rfl, hkL, HP.out, x, HX.out, hd⟩)
        clear hd hkL
        go_wp2_with fail
        refine HK.out.mono ?_
        rintro e w2 ⟨rfl, hb2⟩
        have HB2 := Lib.hid (HB.out.trans (hb2.mono HB.out.size))
        clear hb2
        go_wp2_with fail
        go_ret
        exact ⟨_, rfl, HF.out, HB2.out⟩
    · obtain rfl : k = n := by omega
      have HF := Lib.hid (show Fst (delT cl tm) L (-1) from Or.inl ⟨rfl, by have := HP.out; rwa [List.take_of_length_le (by rw [HN.out]; exact Nat.le_refl _)] at this⟩)
      go_wp2_with fail
      go_ret
      exact ⟨_, rfl, HF.out, HB.out⟩
end Go.Proofs.Ytbpefdnlldpjiaa
