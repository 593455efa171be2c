/- Package slot: Vote, Pre, Chosen. -/
import Derived.Test.YthlmalangjgioaaSlot1
namespace Go.Proofs.Ythlmalangjgioaa
open Go.RowKit
set_option linter.unusedSimpArgs false

section
variable {w w2 : World} {Z : Nat → Prop} {v v1 v2 : Value} {l b : List Rq} {L : List Vo} {M : List Ve} {sb : Nat} {f : Int} {s : Sx}
theorem Row.put (hr : Row w Z v L M) {k g c : Nat} (hv : v = .slice (some ⟨g, 0, none⟩) L.length c) (hk : k < L.length) (hb : Below w.heap.size w w2) {A : Option Addr} {d : Nat} (hbat : Bat w2 (fun j => w.heap.size ≤ j) (.slice A b.length d) b) (sg : Int) :
    ∃ M', Row (((w2.setCell ⟨g, k * 3, none⟩ (.bool true)).setCell ⟨g, k * 3 + 1, none⟩ (.int .i64 sg)).setCell ⟨g, k * 3 + 2, none⟩ (.slice A b.length d)) (fun j => Z j ∨ w.heap.size ≤ j) v (L.set k ⟨true, sg, b⟩) M' ∧
    Turn (fun j => v.ownBlock = some j) w (((w2.setCell ⟨g, k * 3, none⟩ (.bool true)).setCell ⟨g, k * 3 + 1, none⟩ (.int .i64 sg)).setCell ⟨g, k * 3 + 2, none⟩ (.slice A b.length d)) := by
  have hk' : k < M.length := by rw [hr.len]; exact hk
  have ho2 := below_own hr.own hb (Nat.le_refl _)
  have ht2 : Turn (fun j => v.ownBlock = some j) w2 (((w2.setCell ⟨g, k * 3, none⟩ (.bool true)).setCell ⟨g, k * 3 + 1, none⟩ (.int .i64 sg)).setCell ⟨g, k * 3 + 2, none⟩ (.slice A b.length d)) := by
    have hz : v.ownBlock = some g := by rw [hv]; rfl
    exact (((Turn.refl _ w2).set_ _ _ hz).set_ _ _ hz).set_ _ _ hz
  have hoff : ∀ {Z' : Nat → Prop} {u : Value} {y : List Rq}, Bat w2 Z' u y → ∀ j, u.ownBlock = some j → ¬ v.ownBlock = some j := fun hu j hj e => by
    rcases own_apart hu.own ho2 (by decide) with h | h
    · rw [h] at hj; cases hj
    · exact h (hj.trans e.symm)
  refine ⟨M.set k ⟨⟨true, sg, b⟩, A, d⟩, ⟨?_, ?_, fun x hx => ?_⟩, (Turn.of_below hb).trans ht2⟩
  · rw [List.map_set, hr.is]
  · rw [hv] at ho2
    have h1 := own_cells ho2 (o := k * 3) (vs := [.bool true, .int .i64 sg, .slice A b.length d]) (by show k * 3 + 3 ≤ L.length * 3; omega)
    have h2 := veCells_set hk' ⟨⟨true, sg, b⟩, A, d⟩
    rw [List.length_set, hv, ← h2]
    exact h1
  · rcases List.mem_or_eq_of_mem_set hx with hx | rfl
    · have h1 := (hr.all x hx)
      have h2 : Bat w2 Z x.val x.o.bt := h1.kept (Turn.of_below (Z := fun _ => False) hb) (fun _ _ => id)
      exact (h2.kept ht2 (hoff h2)).mono (fun _ hj => Or.inl hj)
    · exact (hbat.kept ht2 (hoff hbat)).mono (fun _ hj => Or.inr hj)
/-- What Vote does to a row. -/
def VotePost (w : World) (Z : Nat → Prop) (v : Value) (L : List Vo) (w' : World) : Prop := ∃ M', Row w' (fun j => Z j ∨ w.heap.size ≤ j) v L M' ∧ Turn (fun j => v.ownBlock = some j) w w'
set_option maxHeartbeats 2000000 in
theorem svote_row (h : Sl w Z sb v1 v2 f s) (kd k sg : Int) {A : Option Addr} {n c B : Nat} (hb : Has w B A (reqCells b)) (hn : b.length = n) (hm : n ≤ 1000000) :
    Calls Try.prog 14 #[.pointer (some ⟨sb, 0, none⟩), .int .i64 kd, .int .i64 k, .int .i64 sg, .slice A n c] w fun e w' => e = .returned (.bool (votS (voOfK kd s) k sg b).1) ∧ VotePost w Z (rowOfK kd v1 v2) (votS (voOfK kd s) k sg b).2 w' := by
  have HC := Lib.hid (svotes_any h kd)
  obtain ⟨M, hr⟩ := h.rowK kd
  have HR := Lib.hid hr
  obtain ⟨L, hL⟩ : ∃ L, voOfK kd s = L := ⟨_, rfl⟩
  obtain ⟨v, hv⟩ : ∃ v, rowOfK kd v1 v2 = v := ⟨_, rfl⟩
  rw [hL] at HR hr ⊢
  rw [hv] at HC hr HR ⊢
  have HS := Lib.hid (show VotePost w Z v L w from ⟨M, hr.mono (fun _ hj => Or.inl hj), Turn.refl _ _⟩)
  have HB := Lib.hid (fun w => mq_clone (w := w) (c := c) (A := A) (zs := b) (n := n) (B := B))
  have HH := Lib.hid hb
  clear h hL hv hb
  by_cases hk : 0 ≤ k ∧ k < L.length
  · obtain ⟨m, rfl⟩ := Int.eq_ofNat_of_zero_le hk.1
    have hm' : m < L.length := by omega
    obtain ⟨g, c', x, rfl, _, hx, c0, c1, c2⟩ := hr.cells hm'
    cases hca : x.o.ca with
    | true =>
      rw [votS_had hx hca]
      rw [hca] at c0
      obtain ⟨n', hn'⟩ : ∃ n, L.length = n := ⟨_, rfl⟩
      rw [hn'] at HC hm' HS ⊢
      have hmi : (m : Int) < (n' : Int) := by omega
      have hmi2 : decide ((n' : Int) ≤ (m : Int)) = false := decide_eq_false (by omega)
      clear hr HR hk hx hca hn' c1 c2
      go_enter Try.func14, Try.ntmps14
      go_wp2_with fail
      refine HC.out.mono ?_
      rintro e w1 ⟨rfl, rfl⟩
      go_wp2_with fail
      go_ret
      exact ⟨rfl, HS.out⟩
    | false =>
      rw [votS_new hx hca]
      rw [hca] at c0
      have HBw := Lib.hid (HB.out w HH.out hn hm)
      have HSet := Lib.hid (fun (w2 : World) (A2 : Option Addr) (d : Nat) (hb : Below w.heap.size w w2) (hbat : Bat w2 (fun j => w.heap.size ≤ j) (.slice A2 b.length d) b) => HR.out.put rfl hm' hb hbat sg)
      have HCells := Lib.hid (fun (w2 : World) (hb : Below w.heap.size w w2) => show (w2.cell? ⟨g, m * 3, none⟩ = some (.bool false) ∧ w2.cell? ⟨g, m * 3 + 1, none⟩ = some (.int .i64 x.o.sg) ∧ w2.cell? ⟨g, m * 3 + 2, none⟩ = some (.slice x.A x.o.bt.length x.c)) ∧ w2.frozen? ⟨g, m * 3, none⟩ = false ∧ w2.frozen? ⟨g, m * 3 + 1, none⟩ = false ∧ w2.frozen? ⟨g, m * 3 + 2, none⟩ = false from by
        have hg : g < w.heap.size := block_lt c0
        have ho2 := below_own HR.out.own hb (Nat.le_refl _)
        exact ⟨⟨(hb.cell hg).trans c0, (hb.cell hg).trans c1, (hb.cell hg).trans c2⟩, ho2.frozenAt _, ho2.frozenAt _, ho2.frozenAt _⟩)
      obtain ⟨n', hn'⟩ : ∃ n, L.length = n := ⟨_, rfl⟩
      rw [hn'] at HC hm' HSet ⊢
      obtain ⟨sg0, hsg0⟩ : ∃ y, x.o.sg = y := ⟨_, rfl⟩
      obtain ⟨n0, hn0⟩ : ∃ y, x.o.bt.length = y := ⟨_, rfl⟩
      rw [hsg0, hn0] at HCells
      have hmi : (m : Int) < (n' : Int) := by omega
      have hmi2 : decide ((n' : Int) ≤ (m : Int)) = false := decide_eq_false (by omega)
      have HN := Lib.hid hn
      have HM := Lib.hid hm
      clear hr HR hk hx hca hn' c1 c2 HS HB HH hn hm hsg0 hn0
      go_enter Try.func14, Try.ntmps14
      go_wp2_with fail
      refine HC.out.mono ?_
      rintro e w1 ⟨rfl, rfl⟩
      go_wp2_with fail
      refine HBw.out.mono ?_
      rintro e w2 ⟨u, rfl, ho, hb⟩
      obtain ⟨A2, d2, rfl, -, -⟩ := own_slice ho
      obtain ⟨⟨e0, e1, e2⟩, f0, f1, f2⟩ := HCells.out w2 hb
      have HF := Lib.hid (HSet.out w2 A2 d2 hb ⟨by rw [HN.out]; exact own_to0 ho, by rw [HN.out]; exact HM.out, fun j hj => (ho.lt j (by rw [HN.out] at hj; exact hj)).1⟩)
      rw [HN.out] at HF
      clear ho hb c0
      go_wp2_with fail
      go_ret
      exact ⟨rfl, HF.out⟩
  · rw [votS_bad (by omega)]
    obtain ⟨A', c', rfl, -, -⟩ := own_slice hr.own
    obtain ⟨n', hn'⟩ : ∃ n, L.length = n := ⟨_, rfl⟩
    rw [hn'] at HC hk HS ⊢
    clear hr HR hn'
    by_cases h0 : k < 0
    · have g0 : decide (k < 0) = true := decide_eq_true h0
      clear hk h0
      go_enter Try.func14, Try.ntmps14
      go_wp2_with fail
      refine HC.out.mono ?_
      rintro e w1 ⟨rfl, rfl⟩
      go_wp2_with fail
      go_ret
      exact ⟨rfl, HS.out⟩
    · have g0 : decide (k < 0) = false := decide_eq_false h0
      have g1 : decide ((n' : Int) ≤ k) = true := decide_eq_true (by omega)
      clear hk h0
      go_enter Try.func14, Try.ntmps14
      go_wp2_with fail
      refine HC.out.mono ?_
      rintro e w1 ⟨rfl, rfl⟩
      go_wp2_with fail
      go_ret
      exact ⟨rfl, HS.out⟩
/-- Vote, whatever it is asked. -/
theorem svote_any (h : Sl w Z sb v1 v2 f s) (kd k sg : Int) {A : Option Addr} {n c B : Nat} (hb : Has w B A (reqCells b)) (hn : b.length = n) (hm : n ≤ 1000000) :
    Calls Try.prog 14 #[.pointer (some ⟨sb, 0, none⟩), .int .i64 kd, .int .i64 k, .int .i64 sg, .slice A n c] w fun e w' => e = .returned (.bool (s.vote kd k sg b).1) ∧ SlPost w Z sb v1 v2 f (s.vote kd k sg b).2 w' := by
  refine (svote_row (c := c) h kd k sg hb hn hm).mono ?_
  rintro e w' ⟨rfl, M', hr, ht⟩
  obtain ⟨cv, M1, M2, h1, h2, h3, h4⟩ := h.mem
  have hmn : ∀ j, Z j → Z j ∨ w.heap.size ≤ j := fun _ hj => Or.inl hj
  unfold Sx.vote
  unfold voOfK rowOfK at *
  by_cases k4 : kd = 4
  · rw [if_pos k4] at *
    rw [if_pos k4] at *
    have hz : ∀ j, v1.ownBlock = some j → ¬ v2.ownBlock = some j := fun j e1 e2 => h.ne (e1.trans e2.symm)
    have hbt : ∀ {Z' : Nat → Prop} {u : Value} {y : List Rq}, Bat w Z' u y → ∀ j, u.ownBlock = some j → ¬ v1.ownBlock = some j := fun hu j hj e => h.apart hu hj (Or.inr (Or.inl e))
    refine ⟨rfl, v1, v2, ⟨h.f1, h.f4, ?_, h.n2, h.ne, cv, M', M2, ht.blk h1 (own_blk_ne h3.own h1 (by decide)), (h2.kept ht (hbt h2)).mono hmn, hr, (h4.kept ht (fun j e2 e1 => hz j e1 e2) (fun _ _ hu => hbt hu)).mono hmn⟩, fun _ hg => Or.inl hg, ht.mono (fun _ _ hj => Or.inr (Or.inl hj))⟩
    rw [votS_len]; exact h.n1
  · rw [if_neg k4] at *
    rw [if_neg k4] at *
    by_cases k5 : kd = 5
    · rw [if_pos k5] at *
      rw [if_pos k5] at *
      have hz : ∀ j, v1.ownBlock = some j → ¬ v2.ownBlock = some j := fun j e1 e2 => h.ne (e1.trans e2.symm)
      have hbt : ∀ {Z' : Nat → Prop} {u : Value} {y : List Rq}, Bat w Z' u y → ∀ j, u.ownBlock = some j → ¬ v2.ownBlock = some j := fun hu j hj e => h.apart hu hj (Or.inr (Or.inr e))
      refine ⟨rfl, v1, v2, ⟨h.f1, h.f4, h.n1, ?_, h.ne, cv, M1, M', ht.blk h1 (own_blk_ne h4.own h1 (by decide)), (h2.kept ht (hbt h2)).mono hmn, (h3.kept ht (fun j e1 e2 => hz j e1 e2) (fun _ _ hu => hbt hu)).mono hmn, hr⟩, fun _ hg => Or.inl hg, ht.mono (fun _ _ hj => Or.inr (Or.inr hj))⟩
      rw [votS_len]; exact h.n2
    · rw [if_neg k5] at *
      rw [if_neg k5] at *
      have ht' : Turn (fun _ => False) w w' := ht.mono (fun _ _ hj => by cases hj)
      refine ⟨by rw [votS_bad (by simp; omega)], v1, v2, (h.kept ht' (fun _ _ => id) (fun _ _ _ _ _ => id)).mono hmn, fun _ hg => Or.inl hg, ht'.mono (fun _ _ hj => hj.elim)⟩
end
end Go.Proofs.Ythlmalangjgioaa
