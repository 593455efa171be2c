/- The document's own store: Apply. -/
import Derived.Test.YtibpleemclokiaaStoreMath
import Derived.Test.YtibpleemclokiaaGears
import Derived.Test.YtibpleemclokiaaNotary
import Derived.Lib.Hide
import Derived.Deep.QuietTactic
import Derived.BigQuiet
import Derived.Deep.RegionLaw
import Derived.RegionTactic
import Derived.Deep.DeepCutAuto
namespace Go.Proofs.Ytibpleemclokiaa
open Go.RowKit

def valCells (V : Kv) : List Value := (List.range 64).map fun k : Nat => .int .i64 (V.val k)
def hasCells (V : Kv) : List Value := (List.range 64).map fun k : Nat => .bool (V k).isSome
def stCells (V : Kv) : Array Value := (valCells V ++ hasCells V).toArray
theorem stCells_val (V : Kv) {k : Nat} (h : k < 64) : (stCells V)[k]? = some (.int .i64 (V.val k)) := by
  simp [stCells, valCells, hasCells, h, List.getElem?_append]
theorem stCells_has (V : Kv) {k : Nat} (h : k < 64) : (stCells V)[64 + k]? = some (.bool (V k).isSome) := by
  simp [stCells, valCells, hasCells, h, List.getElem?_append]
theorem stCells_put (V : Kv) {k : Nat} (h : k < 64) (v : Int) : ((stCells V).setIfInBounds k (.int .i64 v)).setIfInBounds (64 + k) (.bool true) = stCells (V.put k v) := by
  apply Array.ext_getElem?
  intro j
  rcases Nat.lt_or_ge j 64 with h1 | h1
  · rw [stCells_val _ h1, Array.getElem?_setIfInBounds_ne (by omega)]
    by_cases e : k = j
    · subst e
      rw [Array.getElem?_setIfInBounds_self_of_lt (by simp [stCells, valCells, hasCells]; omega)]
      unfold Kv.val
      rw [Kv.put_same]
      rfl
    · rw [Array.getElem?_setIfInBounds_ne e, stCells_val _ h1]
      unfold Kv.val
      rw [Kv.put_other _ (by omega)]
  · rcases Nat.lt_or_ge j 128 with h2 | h2
    · obtain ⟨i, rfl⟩ : ∃ i, j = 64 + i := ⟨j - 64, by omega⟩
      rw [stCells_has _ (by omega)]
      by_cases e : k = i
      · subst e
        rw [Array.getElem?_setIfInBounds_self_of_lt (by simp [stCells, valCells, hasCells]; omega), Kv.put_same]
        rfl
      · rw [Array.getElem?_setIfInBounds_ne (by omega), Array.getElem?_setIfInBounds_ne (by omega), stCells_has _ (by omega), Kv.put_other _ (by omega)]
    · rw [Array.getElem?_eq_none (by simp [stCells, valCells, hasCells]; omega), Array.getElem?_eq_none (by simp [stCells, valCells, hasCells]; omega)]
theorem stCells_del (V : Kv) {k : Nat} (h : k < 64) : ((stCells V).setIfInBounds k (.int .i64 0)).setIfInBounds (64 + k) (.bool false) = stCells (V.del k) := by
  apply Array.ext_getElem?
  intro j
  rcases Nat.lt_or_ge j 64 with h1 | h1
  · rw [stCells_val _ h1, Array.getElem?_setIfInBounds_ne (by omega)]
    by_cases e : k = j
    · subst e
      rw [Array.getElem?_setIfInBounds_self_of_lt (by simp [stCells, valCells, hasCells]; omega)]
      unfold Kv.val
      rw [Kv.del_same]
      rfl
    · rw [Array.getElem?_setIfInBounds_ne e, stCells_val _ h1]
      unfold Kv.val
      rw [Kv.del_other _ (by omega)]
  · rcases Nat.lt_or_ge j 128 with h2 | h2
    · obtain ⟨i, rfl⟩ : ∃ i, j = 64 + i := ⟨j - 64, by omega⟩
      rw [stCells_has _ (by omega)]
      by_cases e : k = i
      · subst e
        rw [Array.getElem?_setIfInBounds_self_of_lt (by simp [stCells, valCells, hasCells]; omega), Kv.del_same]
        rfl
      · rw [Array.getElem?_setIfInBounds_ne (by omega), Array.getElem?_setIfInBounds_ne (by omega), stCells_has _ (by omega), Kv.del_other _ (by omega)]
    · rw [Array.getElem?_eq_none (by simp [stCells, valCells, hasCells]; omega), Array.getElem?_eq_none (by simp [stCells, valCells, hasCells]; omega)]
end Go.Proofs.Ytibpleemclokiaa
