/- Package prop: one more node in a row, in its place. -/
import Derived.Test.YtbpefdnlldpjiaaPropHas
import Derived.Test.YtbpefdnlldpjiaaPropIns
namespace Go.Proofs.Ytbpefdnlldpjiaa
open Go.RowKit Go.Sort
set_option linter.unusedSimpArgs false

theorem flat_set {α : Type} {f : α → List Value} {s : Nat} (hf : ∀ x, (f x).length = s) {y : α} {i : Nat} {u : Value} (hi : i < s) : ∀ {l : List α} {k : Nat} {x : α}, l[k]? = some x → f y = (f x).set i u → (l.flatMap f).set (k * s + i) u = (l.set k y).flatMap f
  | [], _, _, h, _ => by simp at h
  | z :: l, 0, x, h, hy => by
    obtain rfl : z = x := by simpa using h
    rw [List.flatMap_cons, Nat.zero_mul, Nat.zero_add, List.set_append_left _ _ (by rw [hf]; exact hi), List.set_cons_zero, List.flatMap_cons, hy]
  | z :: l, k + 1, x, h, hy => by
    have ih := flat_set hf hi (l := l) (k := k) (x := x) (by simpa using h) hy
    rw [List.flatMap_cons, List.set_append_right _ _ (by rw [hf, Nat.succ_mul]; omega), List.set_cons_succ, List.flatMap_cons, ← ih, hf, show (k + 1) * s + i - s = k * s + i by rw [Nat.succ_mul]; omega]
section
variable {w : World} {g c n k : Nat} {L : List Tr} {x : Tr}
theorem own_mask (h : w.ownsRow 0 70 8 (.slice (some ⟨g, 0, none⟩) n c) n (trCells L)) (hl : L.length = n) (hx : L[k]? = some x) (bs : List Bool) : (w.setCell ⟨g, k * 8 + 6, none⟩ (.int .u16 (maskS bs : Nat))).ownsRow 0 70 8 (.slice (some ⟨g, 0, none⟩) n c) n (trCells (L.set k ⟨x.rq, bs, x.sc⟩)) := by
  have hk : k < n := by rw [← hl]; exact (List.getElem?_eq_some_iff.1 hx).1
  have h1 := own_cells (o := k * 8 + 6) (vs := [.int .u16 (maskS bs : Nat)]) h (by show k * 8 + 6 + 1 ≤ _; omega)
  have h2 := flat_set tr_len (y := ⟨x.rq, bs, x.sc⟩) (i := 6) (u := .int .u16 (maskS bs : Nat)) (by omega) hx rfl
  rw [List.set_eq_take_append_cons_drop, if_pos (by rw [show (L.flatMap Tr.cells).length = n * 8 by rw [← hl]; exact trCells_len L]; omega)] at h2
  unfold trCells at h1 ⊢
  rw [← h2]
  simpa [World.setCells] using h1
theorem own_since (h : w.ownsRow 0 70 8 (.slice (some ⟨g, 0, none⟩) n c) n (trCells L)) (hl : L.length = n) (hx : L[k]? = some x) (t : Int) : (w.setCell ⟨g, k * 8 + 7, none⟩ (.int .i64 t)).ownsRow 0 70 8 (.slice (some ⟨g, 0, none⟩) n c) n (trCells (L.set k ⟨x.rq, x.bs, t⟩)) := by
  have hk : k < n := by rw [← hl]; exact (List.getElem?_eq_some_iff.1 hx).1
  have h1 := own_cells (o := k * 8 + 7) (vs := [.int .i64 t]) h (by show k * 8 + 7 + 1 ≤ _; omega)
  have h2 := flat_set tr_len (y := ⟨x.rq, x.bs, t⟩) (i := 7) (u := .int .i64 t) (by omega) hx rfl
  rw [List.set_eq_take_append_cons_drop, if_pos (by rw [show (L.flatMap Tr.cells).length = n * 8 by rw [← hl]; exact trCells_len L]; omega)] at h2
  unfold trCells at h1 ⊢
  rw [← h2]
  simpa [World.setCells] using h1
/-- What a row's put leaves. -/
def MarkPost (w : World) (g c n : Nat) (L : List Tr) (k : Nat) (m : Tr × Bool) (e : Ending) (w' : World) : Prop :=
  e = .returned (.bool m.2) ∧ w'.ownsRow 0 70 8 (.slice (some ⟨g, 0, none⟩) n c) n (trCells (L.set k m.1)) ∧ Turn (fun j => j = g) w w'
theorem list_set_same {α : Type} {l : List α} {k : Nat} {x : α} (h : l[k]? = some x) : l.set k x = l := by
  apply List.ext_getElem?
  intro j
  by_cases hj : k = j
  · subst hj; rw [List.getElem?_set_self (List.getElem?_eq_some_iff.1 h).1, h]
  · rw [List.getElem?_set_ne hj]
theorem list_set_set {α : Type} (l : List α) (k : Nat) (x y : α) : (l.set k x).set k y = l.set k y := by
  apply List.ext_getElem?
  intro j
  by_cases hj : k = j
  · subst hj
    rw [List.getElem?_set, List.getElem?_set]
    simp [List.length_set, List.getElem?_set]
  · rw [List.getElem?_set_ne hj, List.getElem?_set_ne hj, List.getElem?_set_ne hj]
set_option maxHeartbeats 2000000 in
theorem prow_put (h : w.ownsRow 0 70 8 (.slice (some ⟨g, 0, none⟩) n c) n (trCells L)) (hl : L.length = n) (hx : L[k]? = some x) (h13 : x.bs.length = 13) {nd : Int} (hnd : 0 ≤ nd ∧ nd < 13) (f ck : Int) :
    Calls Try.prog 29 #[.pointer (some ⟨g, k * 8, none⟩), .int .i64 nd, .int .i64 (f + 1), .int .i64 ck] w (MarkPost w g c n L k (mark f x nd ck)) := by
  have hk : k < L.length := (List.getElem?_eq_some_iff.1 hx).1
  obtain ⟨ad, e, hab, hR⟩ := tr_at (has_rows h) hk
  cases e
  have e1 : L[k] = x := (List.getElem?_eq_some_iff.1 hx).2
  rw [e1] at hR
  have c6 := hR.c6
  rw [addr_at] at c6
  have c6 : w.cell? ⟨g, k * 8 + 6, none⟩ = some (.int .u16 (maskS x.bs : Nat)) := c6
  have f6 : w.frozen? ⟨g, k * 8 + 6, none⟩ = false := h.frozenAt _
  clear hR e1 hab
  cases hm : marked x.bs nd
  · have HP := Lib.hid (put_new (g := g) (o := k * 8 + 6) h13 c6 f6 hnd hm)
    have hb13 : (bitS x.bs nd).length = 13 := by rw [bit_len, h13]
    have HO1 := Lib.hid (fun m => show ((w.drewN m).setCell ⟨g, k * 8 + 6, none⟩ (.int .u16 (maskS (bitS x.bs nd) : Nat))).ownsRow 0 70 8 (.slice (some ⟨g, 0, none⟩) n c) n (trCells (L.set k ⟨x.rq, bitS x.bs nd, x.sc⟩)) from own_mask (w := w.drewN m) (Turn.own ((Turn.refl (fun _ => False) w).drewN m) h (fun _ _ => id)) hl hx _)
    have HLn := Lib.hid (fun m => len_at (w := (w.drewN m).setCell ⟨g, k * 8 + 6, none⟩ (.int .u16 (maskS (bitS x.bs nd) : Nat))) (g := g) (o := k * 8 + 6) hb13 (World.cell?_setCell_same _ _ _ (show (w.drewN m).cell? _ = _ from c6)))
    have HT1 := Lib.hid (fun m => show Turn (fun j => j = g) w ((w.drewN m).setCell ⟨g, k * 8 + 6, none⟩ (.int .u16 (maskS (bitS x.bs nd) : Nat))) from ((Turn.refl _ w).drewN m).set_ ⟨g, k * 8 + 6, none⟩ _ rfl)
    have HS7 := Lib.hid (fun (wz : World) (ho : wz.ownsRow 0 70 8 (.slice (some ⟨g, 0, none⟩) n c) n (trCells (L.set k ⟨x.rq, bitS x.bs nd, x.sc⟩))) => show (wz.setCell ⟨g, k * 8 + 7, none⟩ (.int .i64 ck)).ownsRow 0 70 8 (.slice (some ⟨g, 0, none⟩) n c) n (trCells (L.set k ⟨x.rq, bitS x.bs nd, ck⟩)) from by
      have := own_since (k := k) (x := ⟨x.rq, bitS x.bs nd, x.sc⟩) ho (by rw [List.length_set]; exact hl) (by rw [List.getElem?_set_self hk]) ck
      rwa [list_set_set] at this)
    have HC7 := Lib.hid (fun (wz : World) (ho : wz.ownsRow 0 70 8 (.slice (some ⟨g, 0, none⟩) n c) n (trCells (L.set k ⟨x.rq, bitS x.bs nd, x.sc⟩))) => show wz.cell? ⟨g, k * 8 + 7, none⟩ = some (.int .i64 x.sc) ∧ wz.frozen? ⟨g, k * 8 + 7, none⟩ = false from by
      obtain ⟨ad, e, _, hR⟩ := tr_at (has_rows ho) (k := k) (by rw [List.length_set]; exact hk)
      cases e
      have := hR.c7
      rw [addr_at, List.getElem_set_self] at this
      exact ⟨this, ho.frozenAt _⟩)
    by_cases hc : (cnt (bitS x.bs nd) : Int) = f + 1
    · have HM := Lib.hid (show mark f x nd ck = (⟨x.rq, bitS x.bs nd, ck⟩, true) by unfold mark; rw [hm, if_neg (by simp), if_pos hc])
      obtain ⟨q, hq⟩ : ∃ q : Int, (cnt (bitS x.bs nd) : Int) = q := ⟨_, rfl⟩
      rw [hq] at HLn hc
      have hg : (q != f + 1) = false := by simp [hc]
      clear h hl hx h13 hk c6 f6 hm hb13 hq hc
      go_enter Try.func29, Try.ntmps29
      go_wp2_with fail
      refine HP.out.mono ?_
      rintro e w1 ⟨rfl, m, rfl⟩
      go_wp2_with fail
      refine (HLn.out m).mono ?_
      rintro e w2 ⟨rfl, m2, rfl⟩
      have ho2 := Turn.own ((Turn.refl (fun _ => False) ((w.drewN m).setCell ⟨g, k * 8 + 6, none⟩ (.int .u16 (maskS (bitS x.bs nd) : Nat)))).drewN m2) (HO1.out m) (fun _ _ => id)
      have ht2 := (HT1.out m).drewN m2
      obtain ⟨w2, hw2⟩ : ∃ w2, ((w.drewN m).setCell ⟨g, k * 8 + 6, none⟩ (.int .u16 (maskS (bitS x.bs nd) : Nat))).drewN m2 = w2 := ⟨_, rfl⟩
      rw [hw2] at ho2 ht2 ⊢
      obtain ⟨c7, f7⟩ := HC7.out w2 ho2
      have HF := Lib.hid (HS7.out w2 ho2)
      have HTF := Lib.hid (ht2.set_ ⟨g, k * 8 + 7, none⟩ (.int .i64 ck) rfl)
      clear hw2 ho2 ht2
      go_wp2_with fail
      go_ret
      exact ⟨by rw [HM.out]; rfl, by rw [HM.out]; exact HF.out, HTF.out⟩
    · have HM := Lib.hid (show mark f x nd ck = (⟨x.rq, bitS x.bs nd, x.sc⟩, false) by unfold mark; rw [hm, if_neg (by simp), if_neg hc])
      obtain ⟨q, hq⟩ : ∃ q : Int, (cnt (bitS x.bs nd) : Int) = q := ⟨_, rfl⟩
      rw [hq] at HLn hc
      have hg : (q != f + 1) = true := by simp [hc]
      clear h hl hx h13 hk c6 f6 hm hb13 hq hc
      go_enter Try.func29, Try.ntmps29
      go_wp2_with fail
      refine HP.out.mono ?_
      rintro e w1 ⟨rfl, m, rfl⟩
      go_wp2_with fail
      refine (HLn.out m).mono ?_
      rintro e w2 ⟨rfl, m2, rfl⟩
      have HF := Lib.hid (Turn.own ((Turn.refl (fun _ => False) ((w.drewN m).setCell ⟨g, k * 8 + 6, none⟩ (.int .u16 (maskS (bitS x.bs nd) : Nat)))).drewN m2) (HO1.out m) (fun _ _ => id))
      have HTF := Lib.hid ((HT1.out m).drewN m2)
      go_wp2_with fail
      go_ret
      exact ⟨by rw [HM.out]; rfl, by rw [HM.out]; exact HF.out, HTF.out⟩
  · have HP := Lib.hid (put_old (g := g) (o := k * 8 + 6) h13 c6 hnd hm)
    have HM := Lib.hid (show mark f x nd ck = (x, false) by unfold mark; rw [hm]; rfl)
    have HX := Lib.hid (list_set_same hx)
    have HO := Lib.hid h
    clear h hl hx h13 hk c6 f6 hm
    go_enter Try.func29, Try.ntmps29
    go_wp2_with fail
    refine HP.out.mono ?_
    rintro e w1 ⟨rfl, m, rfl⟩
    have HT := Lib.hid ((Turn.refl (fun j => j = g) w).drewN m)
    have HF := Lib.hid (Turn.own ((Turn.refl (fun _ => False) w).drewN m) HO.out (fun _ _ => id))
    go_wp2_with fail
    go_ret
    exact ⟨by rw [HM.out]; rfl, by rw [HM.out, HX.out]; exact HF.out, HT.out⟩
end
end Go.Proofs.Ytbpefdnlldpjiaa
