/- Where the program's bytes and the document's are known to be the same: helps for the walks of PackReqs, PackCerts, PackParts. -/
import Derived.Test.YtkkaedcgpbjbmaaTaken
import Derived.Test.YtkkaedcgpbjbmaaPenCerts
import Derived.Test.YtkkaedcgpbjbmaaListsWalk
import Derived.Test.YtkkaedcgpbjbmaaBounds
import Derived.Test.YtkkaedcgpbjbmaaSameVotes
namespace Go.Proofs.Ytkkaedcgpbjbmaa
open Go.RowKit

/-- What is answered where there are bytes. -/
def YesPost (bs : List Int) (w : World) (e : Ending) (w' : World) : Prop :=
  ∃ A c, e = .returned (.tuple #[.slice A bs.length c, .bool true]) ∧ Has w' w'.heap.size A (u8s bs) ∧ bs.length ≤ c ∧ c ≤ 9223372036854775807 ∧ Below w.heap.size w w'
def NoPost (w : World) (e : Ending) (w' : World) : Prop := e = .returned (.tuple #[.slice none 0 0, .bool false]) ∧ Below w.heap.size w w'
theorem BytesPost.yes {ts : List Tok} {bs : List Int} {w w' : World} {e : Ending} (h : BytesPost ts w e w') (hb : bytesOf ts = some bs) : YesPost bs w e w' := by
  obtain ⟨h1, ⟨b2, A, c, h2, h3, h4⟩ | ⟨h2, _⟩⟩ := h
  · rw [hb] at h2
    injection h2 with h2
    subst h2
    obtain ⟨q1, q2⟩ := own_slice_caps h4
    unfold maxLen at q2
    exact ⟨A, c, h3, Has.own h4, q1, by omega, h1⟩
  · rw [hb] at h2; cases h2
theorem BytesPost.no {ts : List Tok} {w w' : World} {e : Ending} (h : BytesPost ts w e w') (hb : bytesOf ts = none) : NoPost w e w' := by
  obtain ⟨h1, ⟨b2, A, c, h2, _⟩ | ⟨_, h3⟩⟩ := h
  · rw [hb] at h2; cases h2
  · exact ⟨h3, h1⟩
set_option maxHeartbeats 400000 in
theorem same_law_yes (A A' : Option Addr) (c c' B : Nat) (bs : List Int) (hl : bs.length ≤ 1048576) (w : World) (h1 : Has w B A (u8s bs)) (h2 : Has w B A' (u8s bs)) :
    Calls Try.prog 26 #[.slice A bs.length c, .bool true, .slice A' bs.length c', .bool true] w fun e w' => e = .returned (.bool true) ∧ Below w.heap.size w w' := by
  have HC := Lib.hid (same_is (A := A) (A' := A') (c := c) (c' := c') (B := B) (zs := bs) (ys := bs) rfl rfl (by omega) (show sameB bs bs = true by simp [sameB]) w h1 h2)
  clear h1 h2
  go_enter Try.func26, Try.ntmps26
  go_wp2_with fail
  refine (HC.out).mono ?_
  rintro e w1 ⟨rfl, nq, rfl⟩
  go_wp2_with fail
  go_ret
  exact ⟨rfl, below_drewN (Below.refl _ _) _⟩
set_option maxHeartbeats 400000 in
theorem same_law_no (w : World) :
    Calls Try.prog 26 #[.slice none 0 0, .bool false, .slice none 0 0, .bool false] w fun e w' => e = .returned (.bool true) ∧ Below w.heap.size w w' := by
  have HC := Lib.hid (same_is (A := none) (A' := none) (c := 0) (c' := 0) (B := 0) (zs := []) (ys := []) rfl rfl (by simp) (show sameB [] [] = true by simp [sameB]) w (Has.nil _ _ _) (Has.nil _ _ _))
  go_enter Try.func26, Try.ntmps26
  go_wp2_with fail
  refine (HC.out).mono ?_
  rintro e w1 ⟨rfl, nq, rfl⟩
  go_wp2_with fail
  go_ret
  exact ⟨rfl, below_drewN (Below.refl _ _) _⟩
end Go.Proofs.Ytkkaedcgpbjbmaa
