/- The walk of NotaryPlays: it returns true for any acts. -/
import Derived.Test.YtalniijnlolbkaaPlay
import Derived.Test.YtalniijnlolbkaaWakeN
namespace Go.Proofs.Ytalniijnlolbkaa
open Go.RowKit Go.Maps

theorem ActsIn.of {w w' : World} {A : Option Addr} {l : List Ac} {c : Nat} (h : IsActs w A l c) (hb : Below w.heap.size w w') : ActsIn w' w.heap.size A l c :=
  ⟨Nat.le_trans h.le h.most, h.has.below hb (Nat.le_refl _), fun x hx => by
    have := h.came x hx
    exact ⟨this.dd, this.pt, this.kk, Nat.le_trans this.b.le this.b.most, this.b.nil, this.b.has.below hb (Nat.le_refl _), this.b.le⟩⟩
/-- A new notary of the document's. -/
theorem Rf.made (w : World) {R : Nat → Prop} (h : R w.heap.size) : Rf R (w.alloc (.cells #[.slice none 0 0, .slice none 0 0] 30)) w.heap.size [] :=
  ⟨h, _, _, Blk.new _ _ _, World.ownsRow_nil _ _ _ _, World.ownsRow_nil _ _ _ _, fun g hg => by simp [Value.ownBlock] at hg, fun g hg => by simp [Value.ownBlock] at hg⟩
/-- The first zone: all that is new, but for the notary. -/
theorem Out.first {W w : World} {nb bm : Nat} (h1 : W.heap.size ≤ nb) (h2 : W.heap.size ≤ bm) (h3 : nb < w.heap.size ∧ bm < w.heap.size) : Out (fun k => W.heap.size ≤ k ∧ k ≠ nb ∧ k ≠ bm) nb bm w W.heap.size :=
  ⟨fun h => h.2.1 rfl, fun h => h.2.2 rfl, fun k hk => ⟨by omega, by omega, by omega⟩, fun k hk => ⟨fun h => by omega, by omega, by omega⟩⟩

set_option maxHeartbeats 1000000 in
theorem notaryPlays_walk (A : Option Addr) (c : Nat) (l : List Ac) (w : World) (w0 : IsActs w A l c) :
    Calls Try.prog 3 #[.slice A l.length c] w fun e w' => e = .returned (.bool true) ∧ Below w.heap.size w w' := by
  have HA := Lib.hid w0
  clear w0
  go_enter Try.func3, Try.ntmps3
  go_wp2_with fail
  refine (new_any _).mono ?_
  rintro e w1 ⟨nb, bm, rfl, hN, h1, h2, hb⟩
  have HB := Lib.hid hb
  have HN := Lib.hid hN
  have HB2 := Lib.hid (hb.alloc hb.size (.cells #[.slice none 0 0, .slice none 0 0] 30))
  have HN2 := Lib.hid (hN.below ((Below.refl _ w1).alloc (Nat.le_refl _) (.cells #[.slice none 0 0, .slice none 0 0] 30)))
  have HR2 := Lib.hid (Rf.made w1 (R := fun k => w.heap.size ≤ k ∧ k ≠ nb ∧ k ≠ bm) ⟨hb.size, by have := hN.lt; omega, by have := hN.lt; omega⟩)
  have HO2 := Lib.hid (Out.first h1 h2 HN2.out.lt)
  clear hb hN
  go_wp2_with fail
  refine (play_any HN2.out HR2.out List.nodup_nil (Nat.zero_le _) HO2.out (ActsIn.of HA.out HB2.out)).mono ?_
  rintro e w3 ⟨rfl, L, _, _, _, _, ht⟩
  have HB3 := Lib.hid (HB2.out.trans (ht.below (B := w.heap.size) HB2.out.size (fun k hk hz => hz.elim (HO2.out.low k hk).1 (HO2.out.low k hk).2.1)))
  clear ht
  go_wp2_with fail
  refine (wakesN_any _).mono ?_
  rintro e w4 ⟨rfl, hb4⟩
  go_wp2_with fail
  go_ret
  exact ⟨rfl, HB3.out.trans (hb4.mono HB3.out.size)⟩
end Go.Proofs.Ytalniijnlolbkaa
