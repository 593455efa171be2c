/- Package slot: a slot that was made since a world; the example of the document. -/
import Derived.Test.YthlmalangjgioaaSlot5
import Derived.Test.YthlmalangjgioaaWithin
namespace Go.Proofs.Ythlmalangjgioaa
open Go.RowKit
set_option linter.unusedSimpArgs false

/-- A slot that was made since w. -/
structure Rs (w : World) (sb : Nat) (v1 v2 : Value) (f : Int) (s : Sx) (wr : World) : Prop where
  sl : Sl wr (fun _ => True) sb v1 v2 f s
  zn : ∀ k, SZ sb v1 v2 k → w.heap.size ≤ k
  low : Below w.heap.size w wr
section
variable {w wr wz : World} {sb : Nat} {v1 v2 : Value} {f : Int} {s s' : Sx}
theorem Rs.below (h : Rs w sb v1 v2 f s wr) (hb : Below wr.heap.size wr wz) : Rs w sb v1 v2 f s wz := ⟨h.sl.below hb, h.zn, h.low.trans (hb.mono h.low.size)⟩
theorem Rs.drewN (h : Rs w sb v1 v2 f s wr) (m : Nat) : Rs w sb v1 v2 f s (wr.drewN m) := h.below ⟨rfl, rfl, rfl, Nat.le_refl _, fun _ _ => rfl⟩
theorem Rs.has (h : Rs w sb v1 v2 f s wr) {A : Option Addr} {xs : List Value} (hh : Has w w.heap.size A xs) : Has wr w.heap.size A xs := hh.below h.low (Nat.le_refl _)
theorem Rs.post (h : Rs w sb v1 v2 f s wr) (hp : SlPost wr (fun _ => True) sb v1 v2 f s' wz) : ∃ u1 u2, Rs w sb u1 u2 f s' wz := by
  obtain ⟨u1, u2, h1, h2, h3⟩ := hp
  refine ⟨u1, u2, h1.mono (fun _ _ => trivial), fun k hk => ?_, h.low.trans (h3.below h.low.size (fun k hk hz => ?_))⟩
  · rcases h2 k hk with h2 | h2
    · exact h.zn k h2
    · exact Nat.le_trans h.low.size h2
  · have := h.zn k hz; omega
theorem Sl.off {Z : Nat → Prop} {k : Nat} {t : TypeId} {cs : Array Value} (h : Sl wr Z sb v1 v2 f s) (hb : Blk wr k t cs) (h1 : t ≠ 66) (h2 : t ≠ 70) : ¬ SZ sb v1 v2 k := by
  obtain ⟨cv, M1, M2, a, _, b, c⟩ := h.mem
  rintro (rfl | hk | hk)
  · exact hb.ne_ a h1 rfl
  · exact own_blk_ne b.own hb (Ne.symm h2) hk
  · exact own_blk_ne c.own hb (Ne.symm h2) hk
/-- A block of another type is as it was. -/
theorem SlPost.far {Z : Nat → Prop} {k : Nat} {t : TypeId} {cs : Array Value} (hp : SlPost wr Z sb v1 v2 f s' wz) (h : Sl wr Z sb v1 v2 f s) (hb : Blk wr k t cs) (h1 : t ≠ 66) (h2 : t ≠ 70) : Blk wz k t cs := by
  obtain ⟨_, _, _, _, ht⟩ := hp
  exact ht.blk hb (h.off hb h1 h2)
theorem SlPost.farRow {Z : Nat → Prop} {b m n : Nat} {t : TypeId} {v : Value} {xs : List Value} (hp : SlPost wr Z sb v1 v2 f s' wz) (h : Sl wr Z sb v1 v2 f s) (ho : wr.ownsRow b t m v n xs) (h1 : t ≠ 66) (h2 : t ≠ 70) : wz.ownsRow b t m v n xs := by
  obtain ⟨_, _, _, _, ht⟩ := hp
  refine ht.own ho fun g hg => ?_
  rcases ho.2 with ⟨rfl, _⟩ | ⟨g', cap, cur, rfl, _, hh, _⟩
  · cases hg
  · have : g' = g := Option.some.inj hg
    subst this
    exact h.off (show Blk wr g' t cur from hh) h1 h2
theorem SlPost.turn {Z : Nat → Prop} (hp : SlPost wr Z sb v1 v2 f s' wz) : Turn (SZ sb v1 v2) wr wz := by
  obtain ⟨_, _, _, _, ht⟩ := hp
  exact ht
theorem rs_new {n : Nat} (h1 : 1 ≤ f) (h4 : f ≤ 4) (hn : (n : Int) = 3 * f + 1) (w u : World) (hu : Below w.heap.size w u) : Calls Try.prog 10 #[.int .i64 f] u fun e w' => ∃ sb v1 v2, e = .returned (.tuple #[.pointer (some ⟨sb, 0, none⟩), .int .i64 0]) ∧ Rs w sb v1 v2 f (Sx.new n) w' ∧ Below u.heap.size u w' ∧ (∀ k, SZ sb v1 v2 k → u.heap.size ≤ k) :=
  (slnew_any h1 h4 hn u).mono fun _ _ ⟨sb, v1, v2, he, hs, hz, hb⟩ => ⟨sb, v1, v2, he, ⟨hs.mono (fun _ _ => trivial), fun k hk => Nat.le_trans hu.size (hz k hk), hu.trans (hb.mono hu.size)⟩, hb, hz⟩
end
/-- One request's cells, as a slice. -/
theorem has_one {w : World} {g : Nat} (r : Rq) (h : Blk w g 32 #[.int .i64 r.cl, .int .i64 r.tm, .int .i64 r.kd, .int .i64 r.ky, .int .i64 r.vl, .int .i64 r.sg]) : Has w w.heap.size (some ⟨g, 0, none⟩) (reqCells [r]) := h.has h.lt
/-- The document's example. -/
def wk14 : Rq := ⟨0, 1, 0, 0, 0, 0⟩
def wkS (k : Nat) : Sx := ⟨some [wk14], (List.range 4).map fun j => if j < k then ⟨true, 10 + (j : Int), [wk14]⟩ else offV, List.replicate 4 offV⟩
theorem wk_vote : ∀ k, k < 3 → (wkS k).vote 4 (k : Int) (10 + (k : Int)) [wk14] = (true, wkS (k + 1)) := by decide +kernel
theorem wk_prep : ∀ k, k < 3 → (wkS k).prep 3 = none := by decide +kernel
set_option maxHeartbeats 2000000 in
theorem wakes14_any (w : World) : Calls Try.prog 11 #[] w fun e w' => e = .returned (.bool true) ∧ Below w.heap.size w w' := by
  go_enter Try.func11, Try.ntmps11
  go_wp2_with fail
  refine (rs_new (f := 1) (n := 4) (by omega) (by omega) (by omega) w w (Below.refl _ _)).mono ?_
  rintro e w1 ⟨sb, v1, v2, rfl, hR, -, -⟩
  have HBox := Lib.hid (Blk.new w1 32 #[.int .i64 0, .int .i64 1, .int .i64 0, .int .i64 0, .int .i64 0, .int .i64 0])
  have HR := Lib.hid (hR.below (wz := w1.alloc (.cells #[.int .i64 0, .int .i64 1, .int .i64 0, .int .i64 0, .int .i64 0, .int .i64 0] 32)) ((Below.refl _ _).alloc (Nat.le_refl _) _))
  clear hR
  go_wp2_with fail
  refine (spre_any HR.out.sl (has_one wk14 HBox.out) (n := 1) rfl (by omega)).mono ?_
  rintro e w2 ⟨rfl, hp⟩
  rw [show (!(Sx.new 4).ch.isSome) = true from rfl]
  have HX2 := Lib.hid (hp.far HR.out.sl HBox.out (by decide) (by decide))
  obtain ⟨u1, u2, hr⟩ := HR.out.post hp
  have HR2 := Lib.hid hr
  obtain ⟨gb, hgb⟩ : ∃ y, w1.heap.size = y := ⟨_, rfl⟩
  rw [hgb] at HX2 ⊢
  clear hp hr HR HBox hgb
  go_wp2_with fail
  refine (spre_any HR2.out.sl (has_one wk14 HX2.out) (n := 1) rfl (by omega)).mono ?_
  rintro e w3 ⟨rfl, hp⟩
  rw [show (!((Sx.new 4).pre [wk14]).ch.isSome) = false from rfl]
  have HX3 := Lib.hid (hp.far HR2.out.sl HX2.out (by decide) (by decide))
  obtain ⟨t1, t2, hr⟩ := HR2.out.post hp
  have HR3 := Lib.hid (show Rs w sb t1 t2 1 (wkS 0) w3 from hr)
  clear hp hr HR2 HX2
  go_wp2_with fail
  go_loopw [4] (fun x wr => ∃ (k : Nat) (v1 v2 : Value), x = .int .i64 k ∧ k ≤ 3 ∧ Hid (Rs w sb v1 v2 1 (wkS k) wr) ∧ Hid (Blk wr gb 32 #[.int .i64 0, .int .i64 1, .int .i64 0, .int .i64 0, .int .i64 0, .int .i64 0])) (fun x _ => 3 - (intOf x).toNat)
  case atStart => exact ⟨0, t1, t2, rfl, by omega, HR3, HX3⟩
  case round =>
    obtain ⟨k, v1, v2, rfl, hk, HR, HX⟩ := hrel
    by_cases hlt : k < 3
    · have HP := Lib.hid (sprep_any HR.out.sl (q := 3) (by omega))
      rw [wk_prep k hlt] at HP
      have HV := Lib.hid (wk_vote k hlt)
      go_wp2_with fail
      refine HP.out.mono ?_
      rintro e w5 ⟨u, rfl, ho, hb⟩
      obtain ⟨A5, d5, rfl, -, -⟩ := own_slice ho
      have HR5 := Lib.hid (HR.out.below hb)
      have HX5 := Lib.hid (HX.out.below hb HX.out.lt)
      clear ho hb HP
      go_wp2_with fail
      refine (svote_any HR5.out.sl 4 k (10 + k) (has_one wk14 HX5.out) (n := 1) rfl (by omega)).mono ?_
      rintro e w6 ⟨rfl, hp⟩
      have HX6 := Lib.hid (hp.far HR5.out.sl HX5.out (by decide) (by decide))
      obtain ⟨x1, x2, hr⟩ := HR5.out.post hp
      rw [HV.out] at hr ⊢
      have HR6 := Lib.hid hr
      clear hp hr
      go_wp2_with fail
      go_roundw
      case rel => exact ⟨k + 1, x1, x2, by go_num, by omega, HR6, HX6⟩
      case measure => simp [intOf]; omega
    · obtain rfl : k = 3 := by omega
      have HP := Lib.hid (sprep_any HR.out.sl (q := 3) (by omega))
      rw [show (wkS 3).prep 3 = some [⟨0, 10⟩, ⟨1, 11⟩, ⟨2, 12⟩] by decide +kernel] at HP
      go_wp2_with fail
      refine HP.out.mono ?_
      rintro e w5 ⟨u, rfl, ho, hb⟩
      have HL := Lib.hid (HR.out.low.trans (hb.mono HR.out.low.size))
      have HO := Lib.hid ho
      obtain ⟨A5, d5, rfl, -, -⟩ := own_slice ho
      clear ho hb HP
      have HB6 := Lib.hid (show Below w5.heap.size w5 (w5.alloc (.cells #[.int .i64 0, .int .i64 10, .int .i64 1, .int .i64 11, .int .i64 2, .int .i64 12] 44)) from (Below.refl _ _).alloc (Nat.le_refl _) _)
      have HN6 := Lib.hid (Blk.new w5 44 #[.int .i64 0, .int .i64 10, .int .i64 1, .int .i64 11, .int .i64 2, .int .i64 12])
      have HS := Lib.hid (same_votes_is (A := A5) (A' := some ⟨w5.heap.size, 0, none⟩) (c := d5) (c' := 3) (la := 3) (lb := 3) (zs := [⟨0, 10⟩, ⟨1, 11⟩, ⟨2, 12⟩]) (ys := [⟨0, 10⟩, ⟨1, 11⟩, ⟨2, 12⟩]) (r := true) rfl rfl (by omega) (by decide +kernel) _ ((has_rows (below_own HO.out HB6.out (Nat.le_refl _)))) (HN6.out.has HN6.out.lt))
      go_wp2_with fail
      refine HS.out.mono ?_
      rintro e w7 ⟨rfl, m, rfl⟩
      go_wp2_with fail
      go_ret
      exact ⟨rfl, (HL.out.trans (HB6.out.mono HL.out.size)).trans ⟨rfl, rfl, rfl, Nat.le_refl _, fun _ _ => rfl⟩⟩
end Go.Proofs.Ythlmalangjgioaa
