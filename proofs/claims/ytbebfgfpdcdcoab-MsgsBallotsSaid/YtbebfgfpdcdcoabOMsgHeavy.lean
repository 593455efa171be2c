/- The contract of keep.Heavy: has a message more than is played? -/
import Derived.Test.YtbebfgfpdcdcoabOMsgKeep
namespace Go.Proofs.Ytbebfgfpdcdcoab
open Go.RowKit

def lightP (p : Pt) : Bool := decide (p.vs.length ≤ 30) && !heavyC p.cs
def heavyM (m : Mg) : Bool := !(decide (m.bt.length ≤ 12 ∧ m.vs.length ≤ 30 ∧ m.ps.length ≤ 12) && !heavyC m.cs && m.ps.all lightP)
theorem heavyM_len {m : Mg} (h : ¬ (m.bt.length ≤ 12 ∧ m.vs.length ≤ 30 ∧ m.ps.length ≤ 12)) : heavyM m = true := by simp only [heavyM, decide_eq_false h, Bool.false_and]; rfl
theorem heavyM_certs {m : Mg} (h : heavyC m.cs = true) : heavyM m = true := by simp [heavyM, h]
theorem heavyM_part {m : Mg} {k : Nat} (hk : k < m.ps.length) (h : lightP m.ps[k] = false) : heavyM m = true := by
  have : m.ps.all lightP = false := by
    rw [List.all_eq_false]
    exact ⟨m.ps[k], List.getElem_mem hk, by simp [h]⟩
  simp [heavyM, this]
theorem heavyM_no {m : Mg} (h1 : m.bt.length ≤ 12 ∧ m.vs.length ≤ 30 ∧ m.ps.length ≤ 12) (h2 : heavyC m.cs = false) (h3 : (m.ps.take m.ps.length).all lightP = true) : heavyM m = false := by
  rw [List.take_length] at h3
  simp [heavyM, h1, h2, h3]
theorem light_msg {m : Mg} (h : heavyM m = false) : m.bt.length ≤ 12 ∧ m.vs.length ≤ 30 ∧ m.ps.length ≤ 12 ∧ heavyC m.cs = false ∧ ∀ q ∈ m.ps, q.vs.length ≤ 30 ∧ heavyC q.cs = false := by
  simp only [heavyM, Bool.not_eq_false', Bool.and_eq_true, decide_eq_true_eq, List.all_eq_true, Bool.not_eq_true'] at h
  refine ⟨h.1.1.1, h.1.1.2.1, h.1.1.2.2, h.1.2, fun q hq => ?_⟩
  have := h.2 q hq
  simpa [lightP] using this
theorem light_parts {l : List Pt} (h1 : l.length ≤ 12) (h2 : ∀ q ∈ l, q.vs.length ≤ 30 ∧ heavyC q.cs = false) : (listToks Pt.toks l).length ≤ 33649 := by
  have h3 : (l.flatMap Pt.toks).length ≤ l.length * 2804 := flatMap_le fun q hq => by
    have := h2 q hq
    have := certs_toks this.2
    rw [part_toks]; omega
  have h4 : l.length * 2804 ≤ 12 * 2804 := Nat.mul_le_mul_right _ h1
  simp only [listToks, List.length_cons]
  omega
theorem light_toks {m : Mg} (h : heavyM m = false) : 10 ≤ m.toks.length ∧ m.toks.length ≤ 40000 := by
  obtain ⟨h1, h2, h3, h4, h5⟩ := light_msg h
  have h6 := certs_toks h4
  have h7 := light_parts h3 h5
  have h8 : 1 ≤ (listToks Ct.toks m.cs).length := by simp [listToks]
  have h9 : 1 ≤ (listToks Pt.toks m.ps).length := by simp [listToks]
  simp only [Mg.toks, Mg.head, List.length_append, List.length_cons, List.length_nil, reqs_toks, votes_toks]
  omega
theorem cert_small {l : List Ct} (h : heavyC l = false) : ∀ x ∈ l, smallCert x := fun x hx => by
  have := (light_of h).2 x hx
  exact ⟨by omega, by omega⟩
theorem light_ms {m : Mg} (h : heavyM m = false) : smallMs m := by
  obtain ⟨h1, h2, h3, h4, h5⟩ := light_msg h
  refine ⟨by omega, by omega, by have := (light_of h4).1; omega, cert_small h4, by omega, fun q hq => ?_⟩
  have := h5 q hq
  exact ⟨by omega, by have := (light_of this.2).1; omega, cert_small this.2⟩
end Go.Proofs.Ytbebfgfpdcdcoab
