/- Package ledger: what running a batch does, as functions of the store's values and the replies. Nothing of the program's own functions. -/
import Derived.Test.YtpjcedilkahpiaaLedEnt
import Derived.Test.YtpjcedilkahpiaaCacheOne
import Derived.Test.YtpjcedilkahpiaaStoreMath
namespace Go.Proofs.Ytpjcedilkahpiaa

/-- What a ledger holds beside its entries: the store's values and the replies. -/
abbrev Sc := Kv × List (Int × Int)
def Sc.new (n : Nat) : Sc := (Kv.new, List.replicate n (0, 0))
/-- Is a request one of a client that there is, and later than its last one? -/
def Sc.is (s : Sc) (r : Rq) : Bool := decide ((0 ≤ r.cl ∧ r.cl < s.2.length) ∧ (atL s.2 r.cl).1 < r.tm)
def Sc.res (s : Sc) (r : Rq) : Int := (storeS s.1 r.kd r.ky r.vl).1
def Sc.done (s : Sc) (r : Rq) : Sc := ((storeS s.1 r.kd r.ky r.vl).2, (putC s.2 r.cl r.tm (s.res r)).2)
def Sc.step (s : Sc) (r : Rq) : Sc := if s.is r then s.done r else s
def Sc.ents (s : Sc) (r : Rq) : List En := if s.is r then [⟨r, s.res r⟩] else []
def Sc.run : Sc → List Rq → Sc
  | s, [] => s
  | s, r :: b => (s.step r).run b
def Sc.ran : Sc → List Rq → List En
  | _, [] => []
  | s, r :: b => s.ents r ++ (s.step r).ran b
section
variable {s : Sc} {r : Rq}
theorem Sc.is_true (h : s.is r = true) : (0 ≤ r.cl ∧ r.cl < s.2.length) ∧ (atL s.2 r.cl).1 < r.tm := of_decide_eq_true h
theorem Sc.is_false (h : s.is r = false) : ¬ ((0 ≤ r.cl ∧ r.cl < s.2.length) ∧ (atL s.2 r.cl).1 < r.tm) := of_decide_eq_false h
theorem Sc.step_yes (h : s.is r = true) : s.step r = s.done r := by unfold Sc.step; rw [h]; rfl
theorem Sc.step_no (h : s.is r = false) : s.step r = s := by unfold Sc.step; rw [h]; rfl
theorem Sc.ents_yes (h : s.is r = true) : s.ents r = [⟨r, s.res r⟩] := by unfold Sc.ents; rw [h]; rfl
theorem Sc.ents_no (h : s.is r = false) : s.ents r = [] := by unfold Sc.ents; rw [h]; rfl
theorem Sc.put_is (h : s.is r = true) : putC s.2 r.cl r.tm (s.res r) = (true, s.2.set r.cl.toNat (r.tm, s.res r)) := by
  unfold putC
  rw [if_pos (Sc.is_true h)]
theorem Sc.done_len (s : Sc) (r : Rq) : (s.done r).2.length = s.2.length := putC_len _ _ _ _
theorem Sc.step_len (s : Sc) (r : Rq) : (s.step r).2.length = s.2.length := by
  unfold Sc.step
  split
  · exact Sc.done_len s r
  · rfl
theorem Sc.done_at (h : s.is r = true) (j : Int) : atL (s.done r).2 j = if j = r.cl then (r.tm, s.res r) else atL s.2 j := by
  unfold Sc.done
  rw [Sc.put_is h]
  obtain ⟨⟨h1, h2⟩, _⟩ := Sc.is_true h
  obtain ⟨n, hn⟩ := Int.eq_ofNat_of_zero_le h1
  rw [hn] at h2 ⊢
  rw [Int.toNat_natCast]
  exact atL_set (by omega) _ _
theorem Sc.step_time (s : Sc) (r : Rq) (j : Int) : (atL s.2 j).1 ≤ (atL (s.step r).2 j).1 := by
  cases h : s.is r
  · rw [Sc.step_no h]; exact Int.le_refl _
  · rw [Sc.step_yes h, Sc.done_at h]
    split
    · rename_i e
      have := (Sc.is_true h).2
      rw [e]
      exact Int.le_of_lt this
    · exact Int.le_refl _
/-- What was passed over stays so. -/
theorem Sc.stay {q : Rq} (h : s.is q = false) (r : Rq) : (s.step r).is q = false := by
  refine decide_eq_false fun hc => Sc.is_false h ⟨⟨hc.1.1, by rw [← Sc.step_len s r]; exact hc.1.2⟩, ?_⟩
  have := Sc.step_time s r q.cl
  omega
theorem Sc.after (s : Sc) (r : Rq) : (s.step r).is r = false := by
  cases h : s.is r
  · exact Sc.stay h r
  · rw [Sc.step_yes h]
    refine decide_eq_false fun hc => ?_
    have := hc.2
    rw [Sc.done_at h, if_pos rfl] at this
    exact absurd this (Int.lt_irrefl _)
theorem Sc.stay_run {q : Rq} : ∀ (b : List Rq) {s : Sc}, s.is q = false → (s.run b).is q = false
  | [], _, h => h
  | r :: b, _, h => Sc.stay_run b (Sc.stay h r)
/-- Run again, nothing of a batch is new. -/
theorem Sc.stale : ∀ (b : List Rq) (s : Sc), ∀ q ∈ b, (s.run b).is q = false
  | r :: b, s, q, hq => by
    rcases List.mem_cons.1 hq with rfl | hq
    · exact Sc.stay_run b (Sc.after s q)
    · exact Sc.stale b (s.step r) q hq
theorem Sc.none_run : ∀ (b : List Rq) {s : Sc}, (∀ q ∈ b, s.is q = false) → s.run b = s ∧ s.ran b = []
  | [], _, _ => ⟨rfl, rfl⟩
  | r :: b, s, h => by
    have h1 := h r (by simp)
    have ih := Sc.none_run b (s := s) (fun q hq => h q (by simp [hq]))
    unfold Sc.run Sc.ran
    rw [Sc.step_no h1, Sc.ents_no h1]
    exact ih
theorem Sc.run_app : ∀ (a b : List Rq) (s : Sc), s.run (a ++ b) = (s.run a).run b
  | [], _, _ => rfl
  | r :: a, b, s => Sc.run_app a b (s.step r)
theorem Sc.ran_app : ∀ (a b : List Rq) (s : Sc), s.ran (a ++ b) = s.ran a ++ (s.run a).ran b
  | [], _, _ => rfl
  | r :: a, b, s => by
    show s.ents r ++ (s.step r).ran (a ++ b) = s.ents r ++ (s.step r).ran a ++ ((s.step r).run a).ran b
    rw [Sc.ran_app a b, List.append_assoc]
theorem Sc.run_len : ∀ (b : List Rq) (s : Sc), (s.run b).2.length = s.2.length
  | [], _ => rfl
  | r :: b, s => (Sc.run_len b (s.step r)).trans (Sc.step_len s r)
theorem Sc.ran_len : ∀ (b : List Rq) (s : Sc), (s.ran b).length ≤ b.length
  | [], _ => Nat.le_refl _
  | r :: b, s => by
    have := Sc.ran_len b (s.step r)
    show (s.ents r ++ (s.step r).ran b).length ≤ b.length + 1
    rw [List.length_append]
    have : (s.ents r).length ≤ 1 := by unfold Sc.ents; split <;> simp
    omega
theorem list_more {α : Type} {l : List α} {k : Nat} (h : k < l.length) : l.take (k + 1) = l.take k ++ [l[k]] := by rw [List.take_add_one, List.getElem?_eq_getElem h]; rfl
theorem Sc.run_take {l : List Rq} {k : Nat} (h : k < l.length) (s : Sc) : s.run (l.take (k + 1)) = (s.run (l.take k)).step l[k] := by
  rw [list_more h, Sc.run_app]; rfl
theorem Sc.ran_take {l : List Rq} {k : Nat} (h : k < l.length) (s : Sc) : s.ran (l.take (k + 1)) = s.ran (l.take k) ++ (s.run (l.take k)).ents l[k] := by
  rw [list_more h, Sc.ran_app]
  show _ ++ (_ ++ []) = _
  rw [List.append_nil]
/-- The entries alone make the same. -/
theorem Sc.again : ∀ (b : List Rq) (s : Sc), s.run ((s.ran b).map En.r) = s.run b ∧ s.ran ((s.ran b).map En.r) = s.ran b
  | [], _ => ⟨rfl, rfl⟩
  | r :: b, s => by
    have ih := Sc.again b (s.step r)
    have e1 : s.ran (r :: b) = s.ents r ++ (s.step r).ran b := rfl
    have e2 : s.run (r :: b) = (s.step r).run b := rfl
    rw [e1, e2]
    cases h : s.is r
    · rw [Sc.step_no h] at ih ⊢
      rw [Sc.ents_no h, List.nil_append]
      exact ih
    · rw [Sc.ents_yes h]
      refine ⟨ih.1, ?_⟩
      show s.ents r ++ (s.step r).ran (((s.step r).ran b).map En.r) = _
      rw [ih.2, Sc.ents_yes h]
/-- Each entry is one of a new request, behind those ahead of it. -/
theorem Sc.entry : ∀ (b : List Rq) (s : Sc) {k : Nat} {e : En}, (s.ran b)[k]? = some e → (s.run (((s.ran b).map En.r).take k)).is e.r = true ∧ e.x = (s.run (((s.ran b).map En.r).take k)).res e.r
  | [], _, _, _, hk => by simp [Sc.ran] at hk
  | r :: b, s, k, e, hk => by
    have ih := Sc.entry b (s.step r) (k := k) (e := e)
    have hs : s.ran (r :: b) = s.ents r ++ (s.step r).ran b := rfl
    rw [hs] at hk ⊢
    cases h : s.is r
    · rw [Sc.ents_no h, List.nil_append] at hk ⊢
      have := ih hk
      rw [Sc.step_no h] at this ⊢
      exact this
    · rw [Sc.ents_yes h] at hk ⊢
      cases k with
      | zero =>
        simp only [List.cons_append, List.getElem?_cons_zero, Option.some.injEq] at hk
        subst hk
        exact ⟨h, rfl⟩
      | succ k =>
        have := Sc.entry b (s.step r) (k := k) (e := e) (by simpa using hk)
        exact this
end
end Go.Proofs.Ytpjcedilkahpiaa
