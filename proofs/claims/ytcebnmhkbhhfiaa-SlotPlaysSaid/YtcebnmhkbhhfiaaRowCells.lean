/- Stores into a row of the call's own. -/
import Derived.Test.YtcebnmhkbhhfiaaGears
import Derived.Shelf.GgSortFunc.RowK
import Derived.Deep.MidRow
namespace Go.Proofs.Ytcebnmhkbhhfiaa
open Go.RowKit

theorem blk_many : ∀ (vs : List Value) {w : World} {g t o : Nat} {cs : Array Value}, Blk w g t cs → Blk (w.setCells g o vs) g t (Sort.setMany cs o vs)
  | [], _, _, _, _, _, h => h
  | v :: vs, _, _, _, o, _, h => blk_many vs (h.set_ o v)
theorem below_many : ∀ (vs : List Value) {B : Nat} {w w2 : World} {g o : Nat}, Below B w w2 → B ≤ g → Below B w (w2.setCells g o vs)
  | [], _, _, _, _, _, h, _ => h
  | v :: vs, B, _, w2, g, o, h, hg => below_many vs (h.trans ⟨rfl, rfl, rfl, by simp, fun k hk => Below.heap_setCell w2 ⟨g, o, none⟩ v k (fun e => by have : k = g := e; omega)⟩) hg
theorem set_list {F : Array Value} {s : Nat} {v : Value} (h : s < F.size) : (F.setIfInBounds s v).toList = (F.toList.take s ++ [v]) ++ F.toList.drop (s + 1) := by
  rw [Array.toList_setIfInBounds, List.set_eq_take_append_cons_drop, if_pos (by simpa using h)]
  simp
theorem many_list : ∀ (vs : List Value) (s : Nat) (F : Array Value), s + vs.length ≤ F.size → (Sort.setMany F s vs).toList = F.toList.take s ++ vs ++ F.toList.drop (s + vs.length)
  | [], s, F, _ => by simp [Sort.setMany]
  | v :: vs, s, F, h => by
    have hs : s < F.size := by simp at h; omega
    have hl : (F.toList.take s ++ [v]).length = s + 1 := by simp; omega
    rw [Sort.setMany, many_list vs (s + 1) _ (by simp at h ⊢; omega), set_list hs, List.take_left' hl, ← List.drop_drop, List.drop_left' hl, List.drop_drop, show s + 1 + vs.length = s + (v :: vs).length by simp; omega]
    simp
theorem own_cells {w : World} {b n c g o s : Nat} {e : TypeId} {xs vs : List Value} (h : w.ownsRow b e s (.slice (some ⟨g, 0, none⟩) n c) n xs) (ho : o + vs.length ≤ n * s) :
    (w.setCells g o vs).ownsRow b e s (.slice (some ⟨g, 0, none⟩) n c) n (xs.take o ++ vs ++ xs.drop (o + vs.length)) := by
  obtain ⟨h1, h2⟩ := h
  rcases h2 with ⟨h2, _⟩ | ⟨g', cap, cur, hv, hg, hb, hc, hm, hz, ht⟩
  · injection h2 with a
    cases a
  · injection hv with a1 a2 a3
    injection a1 with a1
    injection a1 with a1
    subst a1 a3
    have hcs : n * s ≤ cur.size := by rw [hz]; exact Nat.mul_le_mul_right s hc
    refine ⟨by simp [h1]; omega, Or.inr ⟨g, c, Sort.setMany cur o vs, rfl, hg, blk_many vs hb, hc, hm, by rw [Sort.size_setMany, hz], ?_⟩⟩
    have hcl : cur.toList.length = cur.size := by simp
    have hAl : (cur.toList.take o ++ vs).length = o + vs.length := by rw [List.length_append, List.length_take]; omega
    rw [many_list _ _ _ (by omega), ← ht, List.take_append, List.take_of_length_le (by rw [hAl]; exact ho), hAl, List.take_take, Nat.min_eq_left (by omega), List.drop_take]
theorem own_there {w : World} {b n c g s o k : Nat} {e : TypeId} {xs : List Value} (h : w.ownsRow b e s (.slice (some ⟨g, 0, none⟩) n c) n xs) (ho : o + k ≤ n * s) : w.there g o k := by
  obtain ⟨h1, h2⟩ := h
  rcases h2 with ⟨h2, _⟩ | ⟨g', cap, cur, hv, hg, hb, hc, hm, hz, ht⟩
  · injection h2 with a
    cases a
  · injection hv with a1 a2 a3
    injection a1 with a1
    injection a1 with a1
    subst a1 a3
    have hcs : n * s ≤ cur.size := by rw [hz]; exact Nat.mul_le_mul_right s hc
    have hblk : Blk w g e cur := hb
    refine fun j hj => ⟨?_, hblk.frozen _⟩
    rw [hblk.cell, Array.getElem?_eq_getElem (by omega)]
    rfl
end Go.Proofs.Ytcebnmhkbhhfiaa
