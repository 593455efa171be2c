/- A slice of psephoslaw11's acts that came in. -/
import Derived.Test.YtpjcedilkahpiaaThings
namespace Go.Proofs.Ytpjcedilkahpiaa
open Go.RowKit Go.ChangeShapes Go.WideShapes Go.Deep

/-- An act. -/
structure Ac where
  dd : Int
  cl : Int
  tm : Int
  rs : Int
def Ac.cells (x : Ac) : List Value := [.int .i64 x.dd, .int .i64 x.cl, .int .i64 x.tm, .int .i64 x.rs]
structure Ac.Came (w : World) (x : Ac) : Prop where
  dd : fit x.dd
  cl : fit x.cl
  tm : fit x.tm
  rs : fit x.rs
structure IsActs (w : World) (A : Option Addr) (l : List Ac) (c : Nat) : Prop where
  le : l.length ≤ c
  most : c ≤ maxLen
  nil : A = none → c = 0
  has : Has w w.heap.size A (l.flatMap Ac.cells)
  came : ∀ x ∈ l, x.Came w
section
variable {H : Type} {enc : TypeId × Value → H} {w : World} {base : Nat} {held : Bool}
end
/-- An act of the row. -/
theorem act_at {w : World} {B : Nat} {A : Option Addr} {l : List Ac} (h : Has w B A (l.flatMap Ac.cells)) {k : Nat} (hk : k < l.length) :
    ∃ ad, A = some ad ∧ ad.block < B ∧ w.cell? (ad.add (k * 4)) = some (.int .i64 l[k].dd) ∧ w.cell? ⟨(ad.add (k * 4)).block, (ad.add (k * 4)).off + 1, none⟩ = some (.int .i64 l[k].cl) ∧
      w.cell? ⟨(ad.add (k * 4)).block, (ad.add (k * 4)).off + 2, none⟩ = some (.int .i64 l[k].tm) ∧ w.cell? ⟨(ad.add (k * 4)).block, (ad.add (k * 4)).off + 3, none⟩ = some (.int .i64 l[k].rs) := by
  obtain ⟨ad, e, hb, hc⟩ := h.thing (f := Ac.cells) (s := 4) (fun _ => rfl) (by omega) hk
  refine ⟨ad, e, hb, hc 0 _ rfl, ?_, ?_, ?_⟩
  · rw [← add_pos _ _ _ (by omega)]; exact hc 1 _ rfl
  · rw [← add_pos _ _ _ (by omega)]; exact hc 2 _ rfl
  · rw [← add_pos _ _ _ (by omega)]; exact hc 3 _ rfl
end Go.Proofs.Ytpjcedilkahpiaa
