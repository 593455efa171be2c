/- Package prop: Has, ready, Since. -/
import Derived.Test.YtbpefdnlldpjiaaPropRead
namespace Go.Proofs.Ytbpefdnlldpjiaa
open Go.RowKit Go.Sort
set_option linter.unusedSimpArgs false

/-- The request's own row, where find tells. -/
theorem Tb.here {w : World} {tb : Nat} {v : Value} {f n : Int} {L : List Tr} (h : Tb w tb v f n L) {r : Rq} (hr : had L r = true) : ∃ ad c, v = .slice (some ad) L.length c ∧ seat L r < L.length ∧ ad.block < w.heap.size ∧ RowAt w ad (seat L r) (rowOf L r) ∧ (rowOf L r).bs.length = 13 := by
  obtain ⟨x, h1, _, h3⟩ := had_at h.ok.ris hr
  obtain ⟨A, c, rfl, _, _, hh⟩ := h.has
  obtain ⟨hk, hx⟩ := List.getElem?_eq_some_iff.1 h1
  obtain ⟨ad, rfl, hab, hR⟩ := tr_at hh hk
  rw [hx, ← h3] at hR
  exact ⟨ad, c, rfl, hk, hab, hR, rowOf_len h.ok.len r⟩
set_option maxHeartbeats 1000000 in
theorem phas_any {w : World} {tb : Nat} {v : Value} {f n : Int} {L : List Tr} (h : Tb w tb v f n L) (r : Rq) (nd : Int) : Calls Try.prog 15 #[.pointer (some ⟨tb, 0, none⟩), .agg #[.int .i64 r.cl, .int .i64 r.tm, .int .i64 r.kd, .int .i64 r.ky, .int .i64 r.vl, .int .i64 r.sg], .int .i64 nd] w fun e w' => e = .returned (.bool (hasT L r nd)) ∧ Below w.heap.size w w' := by
  have HB0 := Lib.hid (show Below w.heap.size w ((w.alloc (.cells #[.int .i64 r.cl, .int .i64 r.tm, .int .i64 r.kd, .int .i64 r.ky, .int .i64 r.vl, .int .i64 r.sg] 25))) from (Below.refl _ _).alloc (Nat.le_refl _) _)
  have HT := Lib.hid (h.below HB0.out)
  have HF := Lib.hid (pfind_any HT.out r)
  have hs : seat L r ≤ 16 := Nat.le_trans (seat_le L r) h.ok.most
  clear h
  obtain ⟨k, hk⟩ : ∃ k, seat L r = k := ⟨_, rfl⟩
  rw [hk] at HF hs
  have HS := Lib.hid hk
  cases hb : had L r
  · rw [hb] at HF
    have HD := Lib.hid (show hasT L r nd = false by unfold hasT; rw [hb]; rfl)
    clear hb hk
    go_enter Try.func15, Try.ntmps15
    go_wp2_with fail
    refine HF.out.mono ?_
    rintro e w2 ⟨rfl, hb2⟩
    have HB2 := Lib.hid (HB0.out.trans (hb2.mono HB0.out.size))
    clear hb2
    go_wp2_with fail
    go_ret
    exact ⟨by rw [HD.out]; rfl, HB2.out⟩
  · rw [hb] at HF
    have HH := Lib.hid (fun (w2 : World) (hb2 : Below (w.alloc (.cells #[.int .i64 r.cl, .int .i64 r.tm, .int .i64 r.kd, .int .i64 r.ky, .int .i64 r.vl, .int .i64 r.sg] 25)).heap.size (w.alloc (.cells #[.int .i64 r.cl, .int .i64 r.tm, .int .i64 r.kd, .int .i64 r.ky, .int .i64 r.vl, .int .i64 r.sg] 25)) w2) => (HT.out.below hb2).here hb)
    have HD := Lib.hid (show hasT L r nd = marked (rowOf L r).bs nd by unfold hasT; rw [hb]; rfl)
    clear hb hk
    go_enter Try.func15, Try.ntmps15
    go_wp2_with fail
    refine HF.out.mono ?_
    rintro e w2 ⟨rfl, hb2⟩
    have HB2 := Lib.hid (HB0.out.trans (hb2.mono HB0.out.size))
    have HT2 := Lib.hid (HT.out.below hb2)
    obtain ⟨ad, c, rfl, hkl, hab, hR, hl⟩ := HH.out w2 hb2
    rw [HS.out] at hkl hR
    have HM := Lib.hid (has_at hl hR.c6 nd)
    have q2 := HT2.out.blk.cell 2
    simp only [List.getElem?_toArray, List.getElem?_cons_zero, List.getElem?_cons_succ] at q2
    obtain ⟨n0, hn0⟩ : ∃ n0, L.length = n0 := ⟨_, rfl⟩
    rw [hn0] at hkl q2
    have hki : (k : Int) < (n0 : Int) := by omega
    obtain ⟨b, hb⟩ : ∃ b, marked (rowOf L r).bs nd = b := ⟨_, rfl⟩
    rw [hb] at HM HD
    clear hb2 hR hl hn0 hb
    go_wp2_with fail
    refine HM.out.mono ?_
    rintro e w3 ⟨rfl, m, rfl⟩
    go_wp2_with fail
    go_ret
    exact ⟨by rw [HD.out]; rfl, HB2.out.trans ⟨rfl, rfl, rfl, Nat.le_refl _, fun _ _ => rfl⟩⟩
/-- A row by value: ready? -/
theorem weak_is {f : Int} (h1 : 1 ≤ f) (h4 : f ≤ 4) : weakS f = f + 1 := weakS_in h1 h4
set_option maxHeartbeats 1000000 in
theorem pready_any {w : World} {tb : Nat} {v : Value} {f n : Int} {L : List Tr} (h : Tb w tb v f n L) {x : Tr} (hx : x.bs.length = 13) : Calls Try.prog 31 #[.pointer (some ⟨tb, 0, none⟩), .agg #[.int .i64 x.rq.cl, .int .i64 x.rq.tm, .int .i64 x.rq.kd, .int .i64 x.rq.ky, .int .i64 x.rq.vl, .int .i64 x.rq.sg, .int .u16 (maskS x.bs : Nat), .int .i64 x.sc]] w fun e w' => e = .returned (.bool (isReady f x)) ∧ Below w.heap.size w w' := by
  obtain ⟨mm, hmm⟩ : ∃ m : Int, (maskS x.bs : Nat) = m := ⟨_, rfl⟩
  rw [hmm]
  have HB0 := Lib.hid (show Below w.heap.size w (w.alloc (.cells #[.int .i64 x.rq.cl, .int .i64 x.rq.tm, .int .i64 x.rq.kd, .int .i64 x.rq.ky, .int .i64 x.rq.vl, .int .i64 x.rq.sg, .int .u16 mm, .int .i64 x.sc] 70)) from (Below.refl _ _).alloc (Nat.le_refl _) _)
  have HBk := Lib.hid (Blk.new w 70 #[.int .i64 x.rq.cl, .int .i64 x.rq.tm, .int .i64 x.rq.kd, .int .i64 x.rq.ky, .int .i64 x.rq.vl, .int .i64 x.rq.sg, .int .u16 mm, .int .i64 x.sc])
  have HT := Lib.hid (h.below HB0.out)
  obtain ⟨w1, hw1⟩ : ∃ w1, w.alloc (.cells #[.int .i64 x.rq.cl, .int .i64 x.rq.tm, .int .i64 x.rq.kd, .int .i64 x.rq.ky, .int .i64 x.rq.vl, .int .i64 x.rq.sg, .int .u16 mm, .int .i64 x.sc] 70) = w1 := ⟨_, rfl⟩
  have HW1 := Lib.hid hw1
  rw [hw1] at HB0 HT HBk
  clear hw1
  have h6 : w1.cell? ⟨w.heap.size, 6, none⟩ = some (.int .u16 mm) := HBk.out.cell 6
  have HL := Lib.hid (len_at (w := w1.drew) (g := w.heap.size) (o := 6) hx (by rw [hmm]; exact h6))
  have HWk := Lib.hid (fun w => bweak_any f w)
  rw [weakS_in h.ok.f1 h.ok.f4] at HWk
  have c0 : w1.cell? ⟨tb, 0, none⟩ = some (.int .i64 f) := HT.out.blk.cell 0
  have HR := Lib.hid (show isReady f x = decide (f + 1 ≤ (cnt x.bs : Int)) from rfl)
  obtain ⟨q, hq⟩ : ∃ q : Int, (cnt x.bs : Int) = q := ⟨_, rfl⟩
  rw [hq] at HL HR
  clear h hx hmm hq
  obtain ⟨gt, hgt⟩ : ∃ g, w.heap.size = g := ⟨_, rfl⟩
  rw [hgt] at HL HB0
  go_enter Try.func31, Try.ntmps31
  go_wp2_with fail
  rw [HW1.out]
  have k0 : w1.drew.cell? ⟨tb, 0, none⟩ = some (.int .i64 f) := c0
  go_region_held3 (fun w' => w'.cell? ⟨tb, 0, none⟩ = some (.int .i64 f)) (first | exact k0 | exact hq2 | go_keep)
    (first | (go_at_call 47; refine HL.out.mono ?_; rintro e w2 ⟨rfl, m, rfl⟩; have hq2 : (w1.drew.drewN m).cell? ⟨tb, 0, none⟩ = some (.int .i64 f) := c0)
           | (go_at_call 30; refine (HWk.out _).mono ?_; rintro e w3 ⟨rfl, rfl⟩))
  go_wp2_with fail
  go_ret
  exact ⟨by rw [HR.out]; rfl, hgt ▸ HB0.out.trans ⟨rfl, rfl, rfl, Nat.le_refl _, fun _ _ => rfl⟩⟩
end Go.Proofs.Ytbpefdnlldpjiaa
