/- Package inst: Adopt, telling where the new certificate lies; an instance that has no certificate in a block of somebody's. -/
import Derived.Test.YtpdmflhbmimhgaaInstD
namespace Go.Proofs.Ytpdmflhbmimhgaa
open Go.RowKit
set_option linter.unusedSimpArgs false

section
variable {w w' wz : World} {ib k : Nat} {x x' : Ix} {E : List Pe} {e : Pe}
theorem In.put2 (h : In w ib x E) (hk : E[k]? = some e) {y : Pe} {Y : Nat → Prop} (ht : Turn Y w w') (hf : Far w Y) (hY : ∀ j, Y j → j = ib ∨ e.Z j) (hy : PeIs w' x.f y) (hz : ∀ j, y.Z j → e.Z j ∨ w.heap.size ≤ j) (hsb : y.sb = e.sb)
    (hb : Blk w' ib 84 (inCells x (E.set k y))) : In w' ib (x.put k y.x) (E.set k y) ∧ (∀ g, IZ ib (E.set k y) g → IZ ib E g ∨ w.heap.size ≤ g) ∧ Turn (IZ ib E) w w' := by
  have hkl : k < E.length := (List.getElem?_eq_some_iff.1 hk).1
  have hset : ∀ i a, (E.set k y)[i]? = some a → (i = k ∧ a = y) ∨ (i ≠ k ∧ E[i]? = some a) := by
    intro i a ha
    rw [List.getElem?_set] at ha
    by_cases hik : k = i
    · subst hik
      rw [if_pos rfl, if_pos hkl] at ha
      exact Or.inl ⟨rfl, (Option.some.inj ha).symm⟩
    · rw [if_neg hik] at ha
      exact Or.inr ⟨fun e => hik e.symm, ha⟩
  refine ⟨⟨h.f1, h.f4, h.num, h.ah, h.vw, by rw [List.length_set]; exact h.ln, ?_, hb, ?_, ?_⟩, ?_, ht.mono (fun j _ hj => ?_)⟩
  · show _ = x.L.set k y.x
    rw [← h.is, List.map_set]
  · intro i a ha
    rcases hset i a ha with ⟨_, rfl⟩ | ⟨hik, ha⟩
    · exact hy
    · refine (h.all i a ha).kept ht hf (fun j hj hYj => ?_)
      rcases hY j hYj with rfl | hj'
      · exact h.off ha hj
      · exact h.ap i k a e ha hk hik j hj hj'
  · intro i j a b ha hb hij m hma hmb
    rcases hset i a ha with ⟨e1, e2⟩ | ⟨hik, ha'⟩ <;> rcases hset j b hb with ⟨e3, e4⟩ | ⟨hjk, hb'⟩
    · exact hij (e1.trans e3.symm)
    · rw [e2] at hma
      rcases hz m hma with h1 | h1
      · exact h.ap k j e b hk hb' (fun e => hjk e.symm) m h1 hmb
      · have := (h.all j b hb').sl.lt hmb
        omega
    · rw [e4] at hmb
      rcases hz m hmb with h1 | h1
      · exact h.ap k i e a hk ha' (fun e => hik e.symm) m h1 hma
      · have := (h.all i a ha').sl.lt hma
        omega
    · exact h.ap i j a b ha' hb' hij m hma hmb
  · rintro g (rfl | ⟨i, a, ha, hg⟩)
    · exact Or.inl (Or.inl rfl)
    · rcases hset i a ha with ⟨rfl, rfl⟩ | ⟨hik, ha⟩
      · rcases hz g hg with h1 | h1
        · exact Or.inl (Or.inr ⟨i, e, hk, h1⟩)
        · exact Or.inr h1
      · exact Or.inl (Or.inr ⟨i, a, ha, hg⟩)
  · rcases hY j hj with rfl | hj
    · exact Or.inl rfl
    · exact Or.inr ⟨k, e, hk, hj⟩
/-- A certificate's pointer is stored into a place. -/
theorem In.store2 (h : In w ib x E) (hk : E[k]? = some e) {w' : World} {pa ca : Option Nat} {pr co : Option Ct} (ht : Turn (fun j => j = ib) w w') {j : Nat} (hj : j < 3) {u : Value} (hu : (Pe.cells ⟨⟨e.x.s, pr, co⟩, e.sb, e.v1, e.v2, pa, ca⟩) = e.cells.set j u)
    (hb : Blk w' ib 84 ((inCells x E).setIfInBounds (4 + k * 3 + j) u)) (hp : CtAt w' pa pr) (hc : CtAt w' ca co) : In w' ib (x.put k ⟨e.x.s, pr, co⟩) (E.set k ⟨⟨e.x.s, pr, co⟩, e.sb, e.v1, e.v2, pa, ca⟩) ∧ (∀ g, IZ ib (E.set k ⟨⟨e.x.s, pr, co⟩, e.sb, e.v1, e.v2, pa, ca⟩) g → IZ ib E g ∨ w.heap.size ≤ g) ∧ Turn (IZ ib E) w w' := by
  have hf : Far w (fun j => j = ib) := fun k' t cs hb h1 _ _ e => hb.ne_ h.blk h1 e
  have hi := h.all k e hk
  refine h.put2 hk (y := ⟨⟨e.x.s, pr, co⟩, e.sb, e.v1, e.v2, pa, ca⟩) ht hf (fun _ hj => Or.inl hj) ⟨hi.sl.kept ht (fun m hm em => h.off hk (em ▸ hm)) (fun _ _ hb => hf.own hb.own (by decide) (by decide) (by decide)), hp, hc⟩ (fun _ hj => Or.inl hj) rfl ?_
  have : inCells x (E.set k ⟨⟨e.x.s, pr, co⟩, e.sb, e.v1, e.v2, pa, ca⟩) = (inCells x E).setIfInBounds (4 + k * 3 + j) u := by
    unfold inCells
    rw [peCells_put hk hj hu]
    apply Array.ext'
    rw [Array.toList_setIfInBounds]
    show hdI x ++ _ = (hdI x ++ peCells E).set (4 + k * 3 + j) u
    rw [List.set_append_right _ _ (by show 4 ≤ _; omega), show 4 + k * 3 + j - (hdI x).length = k * 3 + j by show _ - 4 = _; omega]
  rw [this]
  exact hb
set_option maxHeartbeats 2000000 in
theorem iadopt_in2 (h : In w ib x E) (hk : E[k]? = some e) (hc : e.x.co = none) (vw : Int) {b : List Rq} {v : List Vt} {A B : Option Addr} {n m B0 : Nat} (h1 : Has w B0 A (reqCells b)) (h2 : Has w B0 B (voteCells v)) (hn1 : b.length = n) (hn2 : v.length = m) (hB0 : B0 ≤ w.heap.size) (l1 : n ≤ 1000000) (l2 : m ≤ 1000000) (d d' : Nat) :
    Calls Try.prog 13 #[.pointer (some ⟨ib, 0, none⟩), .agg #[.int .i64 vw, .int .i64 x.num, .int .i64 ((k : Int) + 1), .slice A n d, .slice B m d']] w fun e' w' => e' = .returned (.bool true) ∧ ∃ g, w.heap.size ≤ g ∧ In w' ib (x.put k ⟨e.x.s, e.x.pr, some ⟨vw, x.num, (k : Int) + 1, b, v⟩⟩) (E.set k ⟨⟨e.x.s, e.x.pr, some ⟨vw, x.num, (k : Int) + 1, b, v⟩⟩, e.sb, e.v1, e.v2, e.pa, some g⟩) ∧ (∀ j, IZ ib (E.set k ⟨⟨e.x.s, e.x.pr, some ⟨vw, x.num, (k : Int) + 1, b, v⟩⟩, e.sb, e.v1, e.v2, e.pa, some g⟩) j → IZ ib E j ∨ w.heap.size ≤ j) ∧ Turn (IZ ib E) w w' := by
  have HB := Lib.hid (show Below w.heap.size w (w.alloc (.cells #[.int .i64 vw, .int .i64 x.num, .int .i64 ((k : Int) + 1), .slice A n d, .slice B m d'] 31)) from (Below.refl _ _).alloc (Nat.le_refl _) _)
  have HR := Lib.hid (Blk.new w 31 #[.int .i64 vw, .int .i64 x.num, .int .i64 ((k : Int) + 1), .slice A n d, .slice B m d'])
  have H0 := Lib.hid h
  have HK0 := Lib.hid hk
  have HI := Lib.hid (h.below HB.out)
  have HO := Lib.hid (fun w => iat_in ib (h.k16 hk) w)
  have c2 := HI.out.cell2 hk
  obtain ⟨c0, -, -, -⟩ := HI.out.hd
  have hs := ((h.all k e hk).co).isSome
  have HCp := Lib.hid (fun (m' : Nat) => icopied_any (c := ⟨vw, x.num, (k : Int) + 1, b, v⟩) (w := (w.alloc (.cells #[.int .i64 vw, .int .i64 x.num, .int .i64 ((k : Int) + 1), .slice A n d, .slice B m d'] 31)).drewN m') (g := w.heap.size) (A := A) (d := d) (B := B) (e := d') (by simp only [hn1, hn2]; exact HR.out) ((h1.below (HB.out.mono hB0) (Nat.le_refl _)).drewN m') ((h2.below (HB.out.mono hB0) (Nat.le_refl _)).drewN m') (Nat.le_trans hB0 HB.out.size) (by simp only [hn1]; exact l1) (by simp only [hn2]; exact l2))
  have HN := Lib.hid (And.intro hn1 (And.intro hn2 (And.intro l1 l2)))
  simp only [hn1, hn2] at HCp
  obtain ⟨nm, hnm⟩ : ∃ y, x.num = y := ⟨_, rfl⟩
  rw [hnm] at c0 c2 HCp HB HI HR ⊢
  rw [hc] at hs
  cases hca : e.ca with
  | some g => rw [hca] at hs; cases hs
  | none =>
    rw [hca] at c2
    change _ = some (Value.pointer none) at c2
    clear h hk hc hs hca hnm h1 h2 hn1 hn2 hB0 l1 l2
    go_enter Try.func13, Try.ntmps13
    go_wp2_with fail
    refine (HO.out _).mono ?_
    rintro e1 w1 ⟨rfl, rfl⟩
    go_wp2_with fail
    go_quiet (fail)
    go_wp2_with fail
    refine (HCp.out _).mono ?_
    rintro e3 w4 ⟨A3, d3, A4, d4, rfl, hn4, hb4⟩
    have HN4 := Lib.hid hn4
    have HB4 := Lib.hid ((below_drewN HB.out nq).trans (hb4.mono HB.out.size))
    have HI4 := Lib.hid (H0.out.below HB4.out)
    have k2 := ((HI4.out.below ((Below.refl _ _).alloc (Nat.le_refl _) (.cells #[.int .i64 vw, .int .i64 nm, .int .i64 ((k : Int) + 1), .slice A3 n d3, .slice A4 m d4] 31)))).cell2 HK0.out
    have hf := (HI4.out.blk.alloc (.cells #[.int .i64 vw, .int .i64 nm, .int .i64 ((k : Int) + 1), .slice A3 n d3, .slice A4 m d4] 31)).frozen (4 + k * 3 + 2)
    clear hn4 hb4 c2
    go_wp2_with fail
    go_ret
    refine ⟨rfl, ?_⟩
    have ht : Turn (fun j => j = ib) w4 ((w4.alloc (.cells #[.int .i64 vw, .int .i64 nm, .int .i64 ((k : Int) + 1), .slice A3 n d3, .slice A4 m d4] 31)).setCell ⟨ib, 4 + k * 3 + 2, none⟩ (.pointer (some ⟨w4.heap.size, 0, none⟩))) := ((Turn.refl (fun j => j = ib) w4).alloc _).set_ ⟨ib, 4 + k * 3 + 2, none⟩ _ rfl
    have hg := (Blk.new w4 31 #[.int .i64 vw, .int .i64 nm, .int .i64 ((k : Int) + 1), .slice A3 n d3, .slice A4 m d4]).far (p := ⟨ib, 4 + k * 3 + 2, none⟩) (by have := HI4.out.blk.lt; show w4.heap.size ≠ ib; omega) (.pointer (some ⟨w4.heap.size, 0, none⟩))
    have hk5 := (HI4.out.blk.alloc (.cells #[.int .i64 vw, .int .i64 nm, .int .i64 ((k : Int) + 1), .slice A3 n d3, .slice A4 m d4] 31)).set_ (4 + k * 3 + 2) (.pointer (some ⟨w4.heap.size, 0, none⟩))
    have hrow : ∀ {b' m' n' : Nat} {t : TypeId} {v' : Value} {xs : List Value}, w4.ownsRow b' t m' v' n' xs → t ≠ 84 → ((w4.alloc (.cells #[.int .i64 vw, .int .i64 nm, .int .i64 ((k : Int) + 1), .slice A3 n d3, .slice A4 m d4] 31)).setCell ⟨ib, 4 + k * 3 + 2, none⟩ (.pointer (some ⟨w4.heap.size, 0, none⟩))).ownsRow b' t m' v' n' xs := fun ho hne => ht.own ho (fun j hj e => own_blk_ne ho HI4.out.blk hne (hj.trans (congrArg some e)))
    have r1 := hrow (own_base HN4.out.bt (Nat.zero_le _)) (by decide)
    have r2 := hrow (own_base HN4.out.vs (Nat.zero_le _)) (by decide)
    have hT : Turn (fun j => j = ib) w _ := (Turn.of_below HB4.out).trans ht
    have hp := H0.out.kept_pr HK0.out hT
    refine ⟨w4.heap.size, HB4.out.size, ?_⟩
    refine H0.out.store2 HK0.out (pa := e.pa) (ca := some w4.heap.size) (pr := e.x.pr) (co := some ⟨vw, nm, (k : Int) + 1, b, v⟩) hT (j := 2) (by omega) (u := .pointer (some ⟨w4.heap.size, 0, none⟩)) rfl hk5 hp.1 ?_
    refine CtIs.new (A := A3) (d := d3) (B := A4) (e := d4) ?_ ⟨?_, ?_⟩ (by simp only [HN.out.1]; exact HN.out.2.2.1) (by simp only [HN.out.2.1]; exact HN.out.2.2.2)
    · simp only [HN.out.1, HN.out.2.1]; exact hg
    · simp only [HN.out.1] at r1 ⊢; exact r1
    · simp only [HN.out.2.1] at r2 ⊢; exact r2
end
/-- No certificate lies in block g. -/
def Av (g : Nat) (E : List Pe) : Prop := ∀ (i : Nat) (e : Pe), E[i]? = some e → e.pa ≠ some g ∧ e.ca ≠ some g
structure Rv (w : World) (ib : Nat) (x : Ix) (g : Nat) (wr : World) : Prop where
  low : Below w.heap.size w wr
  ex : ∃ E : List Pe, In wr ib x E ∧ (∀ k, IZ ib E k → w.heap.size ≤ k) ∧ Av g E
section
variable {w wr wz : World} {ib k g : Nat} {x : Ix} {p : Px}
theorem ctAt_lt {w : World} {g : Nat} {o : Option Ct} (h : CtAt w (some g) o) : g < w.heap.size := by
  cases o with
  | none => cases h
  | some c =>
    obtain ⟨A, d, B, e, h⟩ := h
    exact h.blk.lt
theorem Ri.fresh (h : Ri w ib x wr) (hg : wr.heap.size ≤ g) (hb : Below wr.heap.size wr wz) : Rv w ib x g wz := by
  obtain ⟨E, h1, h2⟩ := h.ex
  refine ⟨h.low.trans (hb.mono h.low.size), E, h1.below hb, h2, fun i e he => ⟨fun e1 => ?_, fun e1 => ?_⟩⟩
  · have := (h1.all i e he).pr
    rw [e1] at this
    have := ctAt_lt this
    omega
  · have := (h1.all i e he).co
    rw [e1] at this
    have := ctAt_lt this
    omega
theorem Rv.ri (h : Rv w ib x g wr) : Ri w ib x wr := by
  obtain ⟨E, h1, h2, _⟩ := h.ex
  exact ⟨h.low, E, h1, h2⟩
theorem Rv.below (h : Rv w ib x g wr) (hb : Below wr.heap.size wr wz) : Rv w ib x g wz := by
  obtain ⟨E, h1, h2, h3⟩ := h.ex
  exact ⟨h.low.trans (hb.mono h.low.size), E, h1.below hb, h2, h3⟩
theorem rv_adopt (h : Rv w ib x g wr) (hgl : g < wr.heap.size) (hk : x.L[k]? = some p) (hc : p.co = none) (vw : Int) {b : List Rq} {v : List Vt} {A B : Option Addr} {n m B0 : Nat} (h1 : Has wr B0 A (reqCells b)) (h2 : Has wr B0 B (voteCells v)) (hn1 : b.length = n) (hn2 : v.length = m) (hB0 : B0 ≤ wr.heap.size) (l1 : n ≤ 1000000) (l2 : m ≤ 1000000) (d d' : Nat) :
    Calls Try.prog 13 #[.pointer (some ⟨ib, 0, none⟩), .agg #[.int .i64 vw, .int .i64 x.num, .int .i64 ((k : Int) + 1), .slice A n d, .slice B m d']] wr fun e w' => e = .returned (.bool true) ∧ Rv w ib (x.put k ⟨p.s, p.pr, some ⟨vw, x.num, (k : Int) + 1, b, v⟩⟩) g w' ∧ Kp wr w' := by
  obtain ⟨E, hI, hz, hav⟩ := h.ex
  obtain ⟨e, he, rfl⟩ := hI.pick hk
  refine (iadopt_in2 hI he hc vw h1 h2 hn1 hn2 hB0 l1 l2 d d').mono ?_
  rintro e' w' ⟨hr, g', hg', a1, a2, a3⟩
  refine ⟨hr, ⟨h.low.trans (a3.below h.low.size (fun j hj hzz => by have := hz j hzz; omega)), _, a1, fun j hj => ?_, fun i a ha => ?_⟩, IZ ib E, a3, hI.far⟩
  · rcases a2 j hj with h3 | h3
    · exact hz j h3
    · exact Nat.le_trans h.low.size h3
  · rw [List.getElem?_set] at ha
    split at ha
    · rename_i hik
      subst hik
      split at ha
      · have : a = _ := (Option.some.inj ha).symm
        subst this
        exact ⟨(hav _ e he).1, fun e1 => by injection e1 with e1; omega⟩
      · cases ha
    · exact hav i a ha
theorem Rv.stored {i : Nat} {cs : Array Value} (h : Rv w ib x g wr) (hb : Blk wr g 31 cs) (hg : w.heap.size ≤ g) (u : Value) : Rv w ib x g (wr.setCell ⟨g, i, none⟩ u) := by
  obtain ⟨E, hI, hz, hav⟩ := h.ex
  have ht : Turn (fun k => k = g) wr (wr.setCell ⟨g, i, none⟩ u) := (Turn.refl (fun k => k = g) wr).set_ ⟨g, i, none⟩ u rfl
  have hf : Only1 wr 31 (fun k => k = g) := fun k t cs hk hne e => hk.ne_ hb hne e
  have hct : ∀ {a : Option Nat} {o : Option Ct}, CtAt wr a o → a ≠ some g → CtAt (wr.setCell ⟨g, i, none⟩ u) a o := by
    intro a o h hne
    cases a <;> cases o
    · trivial
    · exact h
    · exact h
    · obtain ⟨A, d, B, e, h⟩ := h
      exact ⟨A, d, B, e, ht.blk h.blk (fun e1 => hne (congrArg some e1)), ht.own h.bt (hf.own h.bt (by decide)), ht.own h.vs (hf.own h.vs (by decide)), h.lb, h.lv⟩
  exact ⟨h.low.trans (ht.below h.low.size (fun j hj e => by omega)), E, ⟨hI.f1, hI.f4, hI.num, hI.ah, hI.vw, hI.ln, hI.is, ht.blk hI.blk (hf _ _ _ hI.blk (by decide)), fun i' e he => ⟨(hI.all i' e he).sl.turned ht hf (by decide) (by decide) (by decide), hct (hI.all i' e he).pr (hav i' e he).1, hct (hI.all i' e he).co (hav i' e he).2⟩, hI.ap⟩, hz, hav⟩
theorem Rv.other {i gb : Nat} {T : TypeId} {cs : Array Value} (h : Rv w ib x g wr) (hb : Blk wr gb T cs) (hg : w.heap.size ≤ gb) (u : Value) (h0 : 84 ≠ T) (h1 : 108 ≠ T) (h2 : 113 ≠ T) (h3 : 41 ≠ T) (h4 : 31 ≠ T) (h5 : 99 ≠ T) : Rv w ib x g (wr.setCell ⟨gb, i, none⟩ u) := by
  obtain ⟨E, hI, hz, hav⟩ := h.ex
  have ht : Turn (fun k => k = gb) wr (wr.setCell ⟨gb, i, none⟩ u) := (Turn.refl (fun k => k = gb) wr).set_ ⟨gb, i, none⟩ u rfl
  have hf : Only1 wr T (fun k => k = gb) := fun k t cs hk hne e => hk.ne_ hb hne e
  exact ⟨h.low.trans (ht.below h.low.size (fun j hj e => by omega)), E, ⟨hI.f1, hI.f4, hI.num, hI.ah, hI.vw, hI.ln, hI.is, ht.blk hI.blk (hf _ _ _ hI.blk h0), fun i' e he => ⟨(hI.all i' e he).sl.turned ht hf h1 h2 h3, (hI.all i' e he).pr.turned ht hf h4 h3 h5, (hI.all i' e he).co.turned ht hf h4 h3 h5⟩, hI.ap⟩, hz, hav⟩
end
end Go.Proofs.Ytpdmflhbmimhgaa
