/- Plain: how many fields a light list has. -/
import Derived.Test.YtkkaedcgpbjbmaaHeavy
namespace Go.Proofs.Ytkkaedcgpbjbmaa

theorem flatMap_le {α β : Type} {f : α → List β} {s : Nat} : ∀ {l : List α}, (∀ x ∈ l, (f x).length ≤ s) → (l.flatMap f).length ≤ l.length * s
  | [], _ => by simp
  | x :: l, h => by
    have h1 := h x (List.mem_cons_self ..)
    have h2 := flatMap_le (l := l) fun y hy => h y (List.mem_cons_of_mem _ hy)
    rw [List.flatMap_cons, List.length_append, List.length_cons, Nat.succ_mul]
    omega
theorem reqs_toks (l : List Rq) : (listToks Rq.toks l).length = 1 + 6 * l.length := by
  have h2 : (l.flatMap Rq.toks).length = l.length * 6 := flatMap_len (s := 6) (f := Rq.toks) (fun _ => rfl) _
  simp [listToks, h2]; omega
theorem votes_toks (l : List Vt) : (listToks Vt.toks l).length = 1 + 2 * l.length := by
  have h2 : (l.flatMap Vt.toks).length = l.length * 2 := flatMap_len (s := 2) (f := Vt.toks) (fun _ => rfl) _
  simp [listToks, h2]; omega
theorem cert_toks (c : Ct) : c.toks.length = 5 + 6 * c.bt.length + 2 * c.vs.length := by
  simp [Ct.toks, reqs_toks, votes_toks]; omega
theorem part_toks (p : Pt) : p.toks.length = 3 + 2 * p.vs.length + (listToks Ct.toks p.cs).length := by
  simp [Pt.toks, votes_toks]; omega
theorem certs_toks {l : List Ct} (h : heavyC l = false) : (listToks Ct.toks l).length ≤ 2741 := by
  obtain ⟨h1, h2⟩ := light_of h
  have h3 : (l.flatMap Ct.toks).length ≤ l.length * 137 := flatMap_le fun c hc => by
    have := h2 c hc
    rw [cert_toks]; omega
  have h4 : l.length * 137 ≤ 20 * 137 := Nat.mul_le_mul_right _ h1
  simp only [listToks, List.length_cons]
  omega
end Go.Proofs.Ytkkaedcgpbjbmaa
